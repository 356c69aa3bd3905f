/- TimesEnds: the walk. -/
import Derived.Test.YthdolmhbmbgdpaaT1T
namespace Go.Proofs.Ythdolmhbmbgdpaa
open Go.RowKit
open M
set_option linter.unusedVariables false

/-- The squares. -/
def sq (i : Nat) : Int := (i : Int) * (i : Int)

theorem sq_nat (i : Nat) : sq i = ((i * i : Nat) : Int) := by unfold sq; simp
theorem sq_step (i : Nat) : i * i < (i + 1) * (i + 1) := Nat.mul_lt_mul_of_lt_of_le (by omega) (by omega) (by omega)
theorem sq_rises (n : Nat) : Rises sq n := fun i _ => by
  rw [sq_nat, sq_nat]; have := sq_step i; omega
theorem sq_le (i : Nat) (h : i ≤ 4096) : i * i ≤ 16777216 := Nat.mul_le_mul h h
theorem sq_range (n : Nat) (h : n ≤ 4097) : ∀ i, i < n → I64 (sq i) := fun i hi => by
  rw [sq_nat]; have := sq_le i (by omega); exact ⟨by omega, by omega⟩

/-- The times of row j of the law. -/
def er (j i : Nat) : Int :=
  match j, i with
  | 2, _ => -9223372036854775808
  | 3, _ => 9223372036854775807
  | 4, 0 => -9223372036854775808
  | 4, _ => 9223372036854775807
  | 5, 0 => -9223372036854775808
  | 5, 1 => 0
  | 5, _ => 9223372036854775807
  | 6, 0 => -9223372036854775808
  | 6, 1 => -9223372036854775807
  | 6, 2 => 9223372036854775806
  | 6, _ => 9223372036854775807
  | 7, 0 => -1
  | 7, 1 => 0
  | 7, _ => 1
  | _, _ => 0

/-- How many they are. -/
def en (j : Nat) : Nat := match j with
  | 0 => 0
  | 1 => 1
  | 2 => 1
  | 3 => 1
  | 4 => 2
  | 5 => 3
  | 6 => 4
  | _ => 3

theorem er_ok (j : Nat) (hj : j < 8) : en j ≤ 4 ∧ Rises (er j) (en j) ∧ ∀ i, i < en j → I64 (er j i) := by
  have key : ∀ j : Fin 8, en j.1 ≤ 4 ∧ (∀ i : Fin 4, i.1 + 1 < en j.1 → er j.1 i.1 < er j.1 (i.1 + 1)) ∧ ∀ i : Fin 4, i.1 < en j.1 → -9223372036854775808 ≤ er j.1 i.1 ∧ er j.1 i.1 ≤ 9223372036854775807 := by decide
  obtain ⟨h1, h2, h3⟩ := key ⟨j, hj⟩
  simp only at h1 h2 h3
  exact ⟨h1, fun i hi => h2 ⟨i, by omega⟩ hi, fun i hi => h3 ⟨i, by omega⟩ hi⟩

/-- Several things made one behind another. -/
def allocs (w : World) : List Obj → World
  | [] => w
  | o :: os => allocs (w.alloc o) os

theorem allocs_keep : ∀ (os : List Obj) (w : World) (k : Nat), k < w.heap.size → (allocs w os).heap[k]? = w.heap[k]?
  | [], _, _, _ => rfl
  | o :: os, w, k, h => by
    have := allocs_keep os (w.alloc o) k (by simp; omega)
    rw [allocs, this, Below.heap_alloc _ _ _ h]

theorem allocs_get : ∀ (os : List Obj) (w : World) (i : Nat), i < os.length → (allocs w os).heap[w.heap.size + i]? = os[i]?
  | o :: os, w, 0, _ => by
    rw [allocs, Nat.add_zero, allocs_keep os (w.alloc o) _ (by simp), heap_alloc_new]; rfl
  | o :: os, w, i + 1, h => by
    have e : (w.alloc o).heap.size = w.heap.size + 1 := by simp
    have := allocs_get os (w.alloc o) i (by simpa using h)
    rw [e, show w.heap.size + 1 + i = w.heap.size + (i + 1) from by omega] at this
    rw [allocs, this]; rfl

theorem allocs_below : ∀ (os : List Obj) (w v : World) (B : Nat), Below B v w → B ≤ w.heap.size → Below B v (allocs w os)
  | [], _, _, _, h, _ => h
  | o :: os, w, v, B, h, hB => allocs_below os (w.alloc o) v B (h.alloc hB o) (by simp; omega)

/-- What the law lays: seven rows, and the row of the eight. -/
def eo (b : Nat) : List Obj := [.cells #[.int .i64 0] 2, .cells #[.int .i64 (-9223372036854775808)] 2, .cells #[.int .i64 9223372036854775807] 2,
  .cells #[.int .i64 (-9223372036854775808), .int .i64 9223372036854775807] 2, .cells #[.int .i64 (-9223372036854775808), .int .i64 0, .int .i64 9223372036854775807] 2,
  .cells #[.int .i64 (-9223372036854775808), .int .i64 (-9223372036854775807), .int .i64 9223372036854775806, .int .i64 9223372036854775807] 2, .cells #[.int .i64 (-1), .int .i64 0, .int .i64 1] 2,
  .cells #[.slice none 0 0, .slice (some ⟨b, 0, none⟩) 1 1, .slice (some ⟨b + 1, 0, none⟩) 1 1, .slice (some ⟨b + 1 + 1, 0, none⟩) 1 1, .slice (some ⟨b + 1 + 1 + 1, 0, none⟩) 2 2, .slice (some ⟨b + 1 + 1 + 1 + 1, 0, none⟩) 3 3,
    .slice (some ⟨b + 1 + 1 + 1 + 1 + 1, 0, none⟩) 4 4, .slice (some ⟨b + 1 + 1 + 1 + 1 + 1 + 1, 0, none⟩) 3 3] 27]

theorem erow {W : World} {g j n : Nat} {cs : Array Value} {t : TypeId} (h : W.heap[g]? = some (.cells cs t)) (hn : n ≤ 4) (hc : ∀ i : Fin 4, i.1 < n → cs[i.1]? = some (.int .i64 (er j i.1))) : TRow W (some ⟨g, 0, none⟩) n (er j) := fun _ =>
  ⟨g, 0, rfl, fun i hi => by rw [Nat.zero_add, cell_of_row _ _ _ _ _ _ h]; exact hc ⟨i, by omega⟩ hi⟩

/-- The rows as they lie. -/
theorem ends_rows (w : World) : ∀ j, j < 8 → ∃ p, (allocs w (eo w.heap.size)).cell? ⟨w.heap.size + 1 + 1 + 1 + 1 + 1 + 1 + 1, j, none⟩ = some (.slice p (en j) (en j)) ∧ TRow (allocs w (eo w.heap.size)) p (en j) (er j) := by
  have H := fun i (hi : i < 8) => allocs_get (eo w.heap.size) w i hi
  have h7 := H 7 (by omega)
  have hc : ∀ j, (allocs w (eo w.heap.size)).cell? ⟨w.heap.size + 1 + 1 + 1 + 1 + 1 + 1 + 1, j, none⟩ = _ := fun j => cell_of_row _ _ j _ _ _ h7
  intro j hj
  rcases (show j = 0 ∨ j = 1 ∨ j = 2 ∨ j = 3 ∨ j = 4 ∨ j = 5 ∨ j = 6 ∨ j = 7 by omega) with rfl | rfl | rfl | rfl | rfl | rfl | rfl | rfl
  · exact ⟨_, (hc 0).trans rfl, TRow.nil _ _ _⟩
  · exact ⟨_, (hc 1).trans rfl, erow (H 0 (by omega)) (by decide) (fun i hi => by obtain ⟨i, h4⟩ := i; rcases (show i = 0 ∨ i = 1 ∨ i = 2 ∨ i = 3 by omega) with rfl | rfl | rfl | rfl <;> first | rfl | exact absurd hi (by simp [en]))⟩
  · exact ⟨_, (hc 2).trans rfl, erow (H 1 (by omega)) (by decide) (fun i hi => by obtain ⟨i, h4⟩ := i; rcases (show i = 0 ∨ i = 1 ∨ i = 2 ∨ i = 3 by omega) with rfl | rfl | rfl | rfl <;> first | rfl | exact absurd hi (by simp [en]))⟩
  · exact ⟨_, (hc 3).trans rfl, erow (H 2 (by omega)) (by decide) (fun i hi => by obtain ⟨i, h4⟩ := i; rcases (show i = 0 ∨ i = 1 ∨ i = 2 ∨ i = 3 by omega) with rfl | rfl | rfl | rfl <;> first | rfl | exact absurd hi (by simp [en]))⟩
  · exact ⟨_, (hc 4).trans rfl, erow (H 3 (by omega)) (by decide) (fun i hi => by obtain ⟨i, h4⟩ := i; rcases (show i = 0 ∨ i = 1 ∨ i = 2 ∨ i = 3 by omega) with rfl | rfl | rfl | rfl <;> first | rfl | exact absurd hi (by simp [en]))⟩
  · exact ⟨_, (hc 5).trans rfl, erow (H 4 (by omega)) (by decide) (fun i hi => by obtain ⟨i, h4⟩ := i; rcases (show i = 0 ∨ i = 1 ∨ i = 2 ∨ i = 3 by omega) with rfl | rfl | rfl | rfl <;> first | rfl | exact absurd hi (by simp [en]))⟩
  · exact ⟨_, (hc 6).trans rfl, erow (H 5 (by omega)) (by decide) (fun i hi => by obtain ⟨i, h4⟩ := i; rcases (show i = 0 ∨ i = 1 ∨ i = 2 ∨ i = 3 by omega) with rfl | rfl | rfl | rfl <;> first | rfl | exact absurd hi (by simp [en]))⟩
  · exact ⟨_, (hc 7).trans rfl, erow (H 6 (by omega)) (by decide) (fun i hi => by obtain ⟨i, h4⟩ := i; rcases (show i = 0 ∨ i = 1 ∨ i = 2 ∨ i = 3 by omega) with rfl | rfl | rfl | rfl <;> first | rfl | exact absurd hi (by simp [en]))⟩

set_option maxRecDepth 100000 in
set_option maxHeartbeats 8000000 in
theorem ends_any (w : World) : Calls Try.prog 6 #[] w fun e w' => e = .returned (.bool true) ∧ Below w.heap.size w w' := by
  obtain ⟨i5, hi5⟩ := info64
  have Hi := hide hi5
  clear hi5
  go_enter Try.func6, Try.ntmps6
  go_wp2_with fail
  have HR0 := hide (ends_rows w)
  have HBE : Hid (Below w.heap.size w (allocs w (eo w.heap.size))) := allocs_below _ _ _ _ (Below.refl _ _) (Nat.le_refl _)
  change Code.wp _ _ _ _ (allocs w (eo w.heap.size))
  generalize allocs w (eo w.heap.size) = w0 at *
  go_loopw [4] (fun t4 wr => ∃ k : Nat, t4 = .int .i64 (k : Int) ∧ Hid (k ≤ 8 ∧ Below w0.heap.size w0 wr)) (fun t4 _ => 8 - (intOf t4).toNat)
  case atStart => exact ⟨0, rfl, by omega, Below.refl _ _⟩
  case round =>
    obtain ⟨k, rfl, HI⟩ := hrel
    have hk8 : k ≤ 8 := HI.out.1
    by_cases hlt : k < 8
    · obtain ⟨p, hcell, hrow⟩ := HR0.out k hlt
      obtain ⟨q1, q2, q3⟩ := er_ok k hlt
      have cV : wr.cell? ⟨w.heap.size + 1 + 1 + 1 + 1 + 1 + 1 + 1, k, none⟩ = some (.slice p (en k) (en k)) := by rw [HI.out.2.cell (p := ⟨w.heap.size + 1 + 1 + 1 + 1 + 1 + 1 + 1, k, none⟩) (block_lt_of_cell hcell)]; exact hcell
      have HT : Hid (TRow wr p (en k) (er k)) := hrow.below HI.out.2
      obtain ⟨n, hn⟩ : ∃ n, n = en k := ⟨_, rfl⟩
      rw [← hn] at cV HT q1 q2 q3
      have Q2 := hide q2
      have Q3 := hide q3
      clear hcell hrow q2 q3 hn
      generalize w.heap.size + 1 + 1 + 1 + 1 + 1 + 1 + 1 = B at *
      go_wp2_with fail
      refine (pack_ok p n n (er k) wr HT.out (by omega) Q3.out Q2.out).mono ?_
      rintro e w1 ⟨g, L, hL, hg, rfl, G1, B1⟩
      have HL1 := hide hL
      have HG1 := hide G1
      have HB1 := hide B1
      have cV1 : w1.cell? ⟨B, k, none⟩ = some (.slice p n n) := by rw [B1.cell (p := ⟨B, k, none⟩) (block_lt_of_cell cV)]; exact cV
      clear hL G1 B1
      have HI2 : Hid (IsBytes w1 (.slice (some ⟨g, 0, none⟩) L L) (packed (tbn (er k) n))) := by rw [HL1.out]; exact isBytes_row HG1.out
      have HLL : Hid (L ≤ 9 * n) := by rw [HL1.out]; exact back_len _ n
      go_wp2_with fail
      refine (unpack_any _ _ n w1 (.inl HI2.out) (packed_lt _) (by rw [← HL1.out]; have := HLL.out; omega) (by omega)).mono ?_
      rintro e w3 (⟨rfl, B3, hno⟩ | ⟨g3, f3, rfl, hg3, R3, B3, P3, hU3⟩)
      · exact absurd ⟨er k, Q3.out, Q2.out, rfl⟩ hno
      have HB3 : Hid (Below wr.heap.size wr w3) := HB1.out.trans (B3.mono HB1.out.size)
      have HT3 : Hid (TRow w3 p n (er k)) := HT.out.below HB3.out
      have HE3 : Hid (∀ i, i < n → f3 i = er k i) := hU3 (er k) (begins_of ⟨Q3.out, Q2.out, rfl⟩)
      have HR3 := hide R3
      have cV3 : w3.cell? ⟨B, k, none⟩ = some (.slice p n n) := by rw [B3.cell (p := ⟨B, k, none⟩) (block_lt_of_cell cV1)]; exact cV1
      clear B3 P3 hU3 R3 cV1 cV
      go_wp2_with fail
      refine (num_any _ _).mono ?_
      rintro e w4 ⟨rfl, hw4⟩
      have hw42 := hw4.symm
      subst hw42
      go_wp2_with fail
      refine (num_any _ _).mono ?_
      rintro e w4 ⟨rfl, hw4⟩
      have hw42 := hw4.symm
      subst hw42
      go_wp2_with fail
      refine (same_any _ p n n n n f3 (er k) w3 HR3.out HT3.out (by omega) (by omega)).mono ?_
      rintro e w5 ⟨v, rfl, hv, m5, hw5⟩
      obtain rfl : v = true := hv.2 ⟨rfl, HE3.out⟩
      have HB5 : Hid (Below wr.heap.size wr w5) := by rw [hw5]; exact below_drewN HB3.out m5
      clear hw5 hv
      go_wp2_with fail
      go_roundw
      case rel => exact ⟨k + 1, by simp, by omega, HI.out.2.trans (HB5.out.mono HI.out.2.size)⟩
      case measure => simp [intOf]; omega
    · have HBw : Hid (Below w.heap.size w wr) := HBE.out.trans (HI.out.2.mono HBE.out.size)
      have ek : ¬ (k : Int) < 8 := by omega
      clear HI HR0 HBE
      obtain ⟨w3, hw3⟩ : ∃ w3, w3 = wr := ⟨_, rfl⟩
      rw [← hw3] at HBw
      go_wp2_with fail
      go_loopw [9, 10] (fun t9 t10 wi => ∃ i : Nat, t10 = .int .i64 (i : Int) ∧ Hid (i ≤ 4097) ∧ Hid (TSt w3.heap.size w3 sq i t9 wi)) (fun _ t10 _ => 4097 - (intOf t10).toNat)
      case atStart => exact ⟨0, rfl, (by show 0 ≤ 4097; omega), by rw [← hw3]; exact TSt.nil _ _⟩
      case round =>
        obtain ⟨i, rfl, hi, HS⟩ := hrel
        clear hw3
        by_cases hli : i < 4097
        · have Hnext := hide (fun (w4 : World) (g4 cap4 : Nat) (y : Int) (hy : y = sq i) => TSt.next (w4 := w4) (g := g4) (cap := cap4) HS.out hy)
          obtain ⟨x, hx⟩ : ∃ x : Int, x = (i : Int) * (i : Int) := ⟨_, rfl⟩
          have hxn : x = ((i * i : Nat) : Int) := by rw [hx]; simp
          have hx2 := sq_le i (by omega)
          have ex : wrap64 ((i : Int) * (i : Int)) = x := by rw [← hx, hxn]; unfold wrap64; omega
          have ex2 : (i : Int) * (i : Int) = x := hx.symm
          have HXS : Hid (x = sq i) := hx
          have hx0 : 0 ≤ x := by omega
          have hx1 : x ≤ 16777216 := by omega
          clear hx hxn hx2
          go_wp2_with (at_builtin; refine wpList_append_lies _ rfl _ _ _ rfl w3.heap.size 2 i5 (.int .i64 0) 1 8 Try.underlying27 Hi.out.1 Hi.out.2.1 Hi.out.2.2.1 Hi.out.2.2.2 rfl (by decide) _ i (timesV i sq) rfl (HS.out.1.alloc _) ⟨wr.heap.size, 0, none⟩ 1 1 [.int .i64 x] rfl rfl ?d2 ?d3 (by decide) ?d4 ?d5 ?d7 _ rfl ?d6)
          case d2 => intro j u hj; exact cell_new1 wr _ 2 j u hj
          case d3 => intro u hu; simp at hu; subst hu; rfl
          case d4 => unfold maxLen; omega
          case d5 => omega
          case d7 => have := HS.out.2.1.size; simp; omega
          case d6 =>
            intro g4 cap4 w4 ho4 hg4 hat4 hlt4
            have H4 : Hid (TSt w3.heap.size w3 sq (i + 1) (.slice (some ⟨g4, 0, none⟩) (i + 1) cap4) w4) := Hnext.out w4 g4 cap4 x HXS.out ho4 hg4
            clear ho4 hg4 hat4 hlt4 HS Hnext
            go_wp2_with fail
            go_roundw
            case rel => exact ⟨i + 1, by simp, (by show i + 1 ≤ 4097; omega), H4.out⟩
            case measure => simp [intOf]; omega
        · obtain rfl : i = 4097 := by have := hi.out; omega
          obtain ⟨ad, cap, hv2, hcap, hrow⟩ := HS.out.row
          subst hv2
          obtain ⟨pb, po, rfl, _⟩ := hrow (by omega)
          have HRA := hide hrow
          have HR4 : Hid (TRow wr (some ⟨pb, po, none⟩) 4096 sq) := hrow.take (by omega)
          have HB4 : Hid (Below w.heap.size w wr) := HBw.out.trans (HS.out.2.1.mono HBw.out.size)
          clear HS hrow hi hli
          go_wp2_with fail
          refine (pack_ok _ 4096 cap sq wr HR4.out (by omega) (sq_range 4096 (by omega)) (sq_rises _)).mono ?_
          rintro e w5 ⟨g, L, hL, hg, rfl, G5, B5⟩
          have HL5 := hide hL
          have HG5 := hide G5
          have HB5 := hide B5
          clear hL G5 B5
          go_wp2_with fail
          refine (pack_many _ 4097 cap w5 (by omega)).mono ?_
          rintro e w6 ⟨rfl, hw6⟩
          have hw62 := hw6.symm
          subst hw62
          go_wp2_with fail
          refine (unpack_count _ 4097 w5 (.inr (by omega))).mono ?_
          rintro e w6 ⟨rfl, hw6⟩
          have hw62 := hw6.symm
          subst hw62
          have HI5 : Hid (IsBytes w5 (.slice (some ⟨g, 0, none⟩) L L) (packed (tbn sq 4096))) := by rw [HL5.out]; exact isBytes_row HG5.out
          have HLL : Hid (L ≤ 9 * 4096) := by rw [HL5.out]; exact back_len _ 4096
          go_wp2_with fail
          refine (unpack_any _ _ 4096 w5 (.inl HI5.out) (packed_lt _) (by rw [← HL5.out]; have := HLL.out; omega) (by omega)).mono ?_
          rintro e w6 (⟨rfl, B6, hno⟩ | ⟨g6, f6, rfl, hg6, R6, B6, P6, hU6⟩)
          · exact absurd ⟨sq, sq_range 4096 (by omega), sq_rises _, rfl⟩ hno
          have HB6 : Hid (Below wr.heap.size wr w6) := HB5.out.trans (B6.mono HB5.out.size)
          have HT6 : Hid (TRow w6 (some ⟨pb, po, none⟩) 4096 sq) := HR4.out.below HB6.out
          have HE6 : Hid (∀ i, i < 4096 → f6 i = sq i) := hU6 sq (begins_of ⟨sq_range 4096 (by omega), sq_rises _, rfl⟩)
          have HR6 := hide R6
          clear B6 P6 hU6 R6
          go_wp2_with fail
          refine (num_any _ _).mono ?_
          rintro e w7 ⟨rfl, hw7⟩
          have hw72 := hw7.symm
          subst hw72
          go_wp2_with fail
          refine (num_any _ _).mono ?_
          rintro e w7 ⟨rfl, hw7⟩
          have hw72 := hw7.symm
          subst hw72
          go_wp2_with fail
          refine (num_any _ _).mono ?_
          rintro e w7 ⟨rfl, hw7⟩
          have hw72 := hw7.symm
          subst hw72
          go_wp2_with fail
          refine (num_any _ _).mono ?_
          rintro e w7 ⟨rfl, hw7⟩
          have hw72 := hw7.symm
          subst hw72
          go_wp2_with fail
          refine (same_any _ _ 4096 4096 _ _ f6 sq w6 HR6.out HT6.out (by omega) (by omega)).mono ?_
          rintro e w8 ⟨v, rfl, hv, m8, hw8⟩
          obtain rfl : v = true := hv.2 ⟨rfl, HE6.out⟩
          have HB8 : Hid (Below wr.heap.size wr w8) := by rw [hw8]; exact below_drewN HB6.out m8
          clear hw8 hv
          go_wp2_with fail
          refine (works_any w8).mono ?_
          rintro e w9 ⟨rfl, B9⟩
          go_wp2_with fail
          go_ret
          have h8 := HB4.out.trans (HB8.out.mono HB4.out.size)
          exact ⟨rfl, h8.trans (B9.mono h8.size)⟩

end Go.Proofs.Ythdolmhbmbgdpaa

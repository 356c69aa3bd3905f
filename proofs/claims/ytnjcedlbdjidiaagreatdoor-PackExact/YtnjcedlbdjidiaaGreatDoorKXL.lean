/- The Book and the Late: how they begin, a look at them, the walk's state. -/
import Derived.Test.YtnjcedlbdjidiaaGreatDoorB1Rb
import Derived.Test.YtnjcedlbdjidiaaGreatDoorB1Rh
import Derived.Test.YtnjcedlbdjidiaaGreatDoorP2B
import Derived.Test.YtnjcedlbdjidiaaGreatDoorKQ
import Derived.Lib.Bytes
import Derived.Test.YtnjcedlbdjidiaaGreatDoorKT
/- The document's columns: Unpack. -/
namespace Go.Proofs.YtnjcedlbdjidiaaGreatDoor
open Go.RowKit
open M
set_option linter.unusedVariables false
set_option linter.unusedSimpArgs false

theorem strOf_inj {a b : List Nat} (ha : ∀ n ∈ a, n < 256) (hb : ∀ n ∈ b, n < 256) (h : (strOf a).toList = (strOf b).toList) : a = b := by
  have h1 : (strOf a).data.toList = (strOf b).data.toList := by
    unfold strOf at h ⊢
    rw [Lib.strOfNums_toList, Lib.strOfNums_toList] at h
    exact h
  rw [← bytesN_strOf a ha, ← bytesN_strOf b hb]
  unfold bytesN
  rw [h1]

theorem vtk7 (b hi : Nat) (l : List Bool) (e0 : Int) (n : Nat) (w : World) (h : Rr w b hi l e0) (hn : n ≤ 64) :
    Calls Tryz.prog 52 #[.pointer (some ⟨b, 0, none⟩), .int .i64 n] w fun e w' => ∃ (x : Nat) (l' : List Bool) (e1 : Int), e = .returned (.int .u64 (x : Int)) ∧ Rr w' b hi l' e1 ∧ Only b 0 2 w w' ∧ VRd n l e0 x l' e1 := by
  have hpos : 0 < 2 ^ n := Nat.pos_of_ne_zero (by simp)
  by_cases he : e0 = 0
  · subst he
    by_cases hs : n ≤ l.length
    · refine (vbits_ok b hi l n w h hn hs).mono fun e w' ⟨h1, h2, h3⟩ => ?_
      have hlen : (l.take n).length = n := by simp; omega
      have hbits := bitsOf_num (l.take n)
      rw [hlen] at hbits
      refine ⟨_, l.drop n, 0, h1, h2, h3, ?_, fun _ => ⟨rfl, by rw [hbits, List.take_append_drop]⟩, fun _ _ => rfl, fun _ => rfl⟩
      have := num_lt (l.take n)
      rwa [hlen] at this
    · refine (vbits_short b hi l n w h hn (by omega)).mono fun e w' ⟨h1, h2, h3⟩ => ?_
      exact ⟨0, l, 12, h1, h2, h3, hpos, fun h => by omega, fun _ hl => absurd hl hs, fun h => absurd rfl h⟩
  · refine (vbits_bad b hi l n e0 w h (by rw [beq_eq_false_iff_ne]; exact he)).mono fun e w' ⟨h1, h2, h3⟩ => ?_
    exact ⟨0, l, e0, h1, h2, h3, hpos, fun h => absurd h he, fun h _ => absurd h he, fun h => absurd rfl h⟩

theorem USt64.at {B : Nat} {w0 wr : World} {f : Nat → Nat} {i : Nat} {v : Value} (h : USt64 B w0 f i v wr) (hs : B ≤ wr.heap.size) : USt64 B wr f i v wr := ⟨h.1, Below.refl _ _, hs⟩

/-- The row stays where only the Reader turns. -/
theorem USt64.only {B b : Nat} {w wr : World} {f : Nat → Nat} {i : Nat} {v : Value} (h : USt64 B w f i v w) (ho : Only b 0 2 w wr) (hb : b < B) : USt64 B wr f i v wr :=
  ⟨ownsRow_keep h.1 (fun g hg => ho.block g (h.1.lt g hg).2 (by have := (h.1.lt g hg).1; omega)), Below.refl _ _, Nat.le_trans h.2.2 ho.size⟩

/-- i values were taken. -/
structure RUn (W K : Nat) (w W0 wr : World) (bs : List Nat) (n i : Nat) (f : Nat → Nat) (v : Value) (l1 : List Bool) (e1 : Int) (L N : Nat) : Prop where
  own : USt64 W0.heap.size wr f i v wr
  rd : Rr wr w.heap.size W0.heap.size l1 e1
  bel : Below w.heap.size w wr
  rng : ∀ j, j < i → f j < 2 ^ W
  bnd : L + N ≤ W
  full : Fullw W K bs n i f l1 e1 L N

theorem RUn.start {W K : Nat} {w W0 : World} {bs : List Nat} {n : Nat} (h : Rr W0 w.heap.size W0.heap.size (rbits bs) 0) (hb : Below w.heap.size w W0) : RUn W K w W0 W0 bs n 0 (fun _ => 0) (.slice none 0 0) (rbits bs) 0 0 0 :=
  ⟨USt64.nil _ _, h, hb, fun j hj => by omega, by omega, Fullw.start W K bs n _⟩

theorem RUn.first7 {W K : Nat} {w W0 wr w2 w4 : World} {bs : List Nat} {n x : Nat} {f : Nat → Nat} {v : Value} {l' : List Bool} {e1 : Int} {g cap : Nat} (T : RUn W K w W0 wr bs n 0 f v (rbits bs) 0 0 0) (hR : Rr w2 w.heap.size W0.heap.size l' e1) (hO : Only w.heap.size 0 2 wr w2) (hn : 0 < n) (hV : VRd W (rbits bs) 0 x l' e1)
    (hN : USt64 W0.heap.size w2 (fun _ => x) 1 (.slice (some ⟨g, 0, none⟩) 1 cap) w4) : RUn W K w W0 w4 bs n 1 (fun _ => x) (.slice (some ⟨g, 0, none⟩) 1 cap) l' e1 0 0 :=
  ⟨hN.at (Nat.le_trans hN.2.2 hN.2.1.size), hR.keep fun k _ hk => hN.2.1.block k hk, (T.bel.trans (hO.below (Nat.le_refl _) T.bel.size)).trans (hN.2.1.mono (by have := hR.lt; omega)), fun j hj => hV.lt, by omega, Fullw.first hn hV⟩

theorem RUn.next7 {W K : Nat} {w W0 wr w2 w4 : World} {bs : List Nat} {n k x y fk : Nat} {f F : Nat → Nat} {v : Value} {l1 l' : List Bool} {e1 e2 : Int} {L N L' N' g cap : Nat} (T : RUn W K w W0 wr bs n (k + 1) f v l1 e1 L N) (hR : Rr w2 w.heap.size W0.heap.size l' e2) (hO : Only w.heap.size 0 2 wr w2) (hk : k + 1 < n) (hx : x < 2 ^ W) (hb : L' + N' ≤ W)
    (hT : Taken W K L N l1 e1 x L' N' l' e2) (hfk : f k = fk) (hy : y = fk ^^^ x) (hF : F (k + 1) = y) (hF2 : ∀ j, j < k + 1 → F j = f j) (hN : USt64 W0.heap.size w2 F (k + 2) (.slice (some ⟨g, 0, none⟩) (k + 2) cap) w4) : RUn W K w W0 w4 bs n (k + 2) F (.slice (some ⟨g, 0, none⟩) (k + 2) cap) l' e2 L' N' :=
  ⟨hN.at (Nat.le_trans hN.2.2 hN.2.1.size), hR.keep fun k _ hk => hN.2.1.block k hk, (T.bel.trans (hO.below (Nat.le_refl _) T.bel.size)).trans (hN.2.1.mono (by have := hR.lt; omega)), fun j hj => by
    by_cases e : j = k + 1
    · subst e; rw [hF, hy]; exact xor_lt W _ _ (by rw [← hfk]; exact T.rng k (by omega)) hx
    · rw [hF2 j (by omega)]; exact T.rng j (by omega), hb, T.full.next hk hT hF2 (by rw [hF, hy, hfk])⟩

/-- What the document's Unpack tells. -/
def RUnpackEnd7 (W K : Nat) (w : World) (bs : List Nat) (n : Nat) (e : Ending) (w' : World) : Prop :=
  (e = .returned (.tuple #[.slice none 0 0, .int .i64 71]) ∧ Below w.heap.size w w' ∧ ¬ ∃ h, PacksW W K bs h n) ∨
    ∃ (v : Value) (f : Nat → Nat), e = .returned (.tuple #[v, .int .i64 0]) ∧ w'.ownsRow w.heap.size 71 1 v n (valsV64 n f) ∧ Below w.heap.size w w' ∧ PacksW W K bs f n ∧ ∀ h, PacksW W K bs h n → ∀ i, i < n → f i = h i

theorem RUn.ended {W K : Nat} {w W0 wr : World} {bs : List Nat} {n : Nat} {f h : Nat → Nat} {v : Value} {l1 : List Bool} {e1 : Int} {L N : Nat} (T : RUn W K w W0 wr bs n n f v l1 e1 L N) (hP : PacksW W K bs h n) : endL l1 e1 = 0 := by
  obtain ⟨h1, h2, h3, _⟩ := T.full h hP
  subst h1
  rw [← hP.2, rbits_packed] at h3
  have h4 := List.append_cancel_left h3
  unfold endL
  rw [if_pos rfl, ← h4, if_neg (by simp; omega), num_zeros, if_pos rfl]

theorem shl_nat (x s N W : Nat) (hx : x < 2 ^ N) (hs : N + s ≤ W) (hW : W ≤ 64) : x * 2 ^ s < 2 ^ W ∧ IntKind.u64.wrap ((x : Int) * 2 ^ s) = ((x * 2 ^ s : Nat) : Int) := by
  have h1 : x * 2 ^ s < 2 ^ W := by
    have h2 : x * 2 ^ s < 2 ^ N * 2 ^ s := Nat.mul_lt_mul_of_pos_right hx (Nat.two_pow_pos _)
    rw [← Nat.pow_add] at h2
    exact Nat.lt_of_lt_of_le h2 (Nat.pow_le_pow_right (by omega) hs)
  refine ⟨h1, ?_⟩
  have h3 := lt64 h1 hW
  have h4 : (x : Int) * 2 ^ s = ((x * 2 ^ s : Nat) : Int) := by simp
  rw [h4, IntKind.wrap_u64]
  omega

set_option maxRecDepth 100000 in
set_option maxHeartbeats 8000000 in
theorem runpack7_any (W K : Nat) (v : Value) (bs : List Nat) (n : Nat) (w : World) (hWK : WK W K) (h : IsBy w v bs) (hb : ∀ x ∈ bs, x < 256) (hl : bs.length ≤ 1000000) (hn : n ≤ 4096) :
    Calls Tryz.prog 32 #[v, .int .i64 n, .int .i64 W] w (RUnpackEnd7 W K w bs n) := by
  obtain ⟨i5, hi5⟩ := info64
  have Hi := hide hi5
  have hle := hWK.le
  have hW64 := hle.1
  have hK6 := hle.2.2.1
  have HW : Hid (W = 2 ^ K ∧ 2 ^ W ≤ 18446744073709551616 ∧ WK W K ∧ 32 ≤ W) := ⟨hle.2.2.2.2.1, hle.2.2.2.2.2, hWK, hle.2.1⟩
  have H := hide h
  have HB := hide hb
  have HL := hide hl
  clear h hb hl hi5 hle
  go_enter Tryz.func32, Tryz.ntmps32
  go_wp2_with fail
  refine (vfrom_any v bs w H.out HL.out HB.out).mono ?_
  rintro e W0 ⟨rfl, R0, B0⟩
  have HT0 := hide (RUn.start (W := W) (K := K) (n := n) R0 B0)
  have hbB : w.heap.size < W0.heap.size := R0.lt
  clear R0 B0
  go_wp2_with fail
  refine (rfield_any W K W0 hWK).mono ?_
  rintro e w0 ⟨rfl, hw0⟩
  have hw0 := hw0.symm
  subst hw0
  go_wp2_with fail
  go_loopw [10, 11, 12, 13] (fun t10 t11 t12 t13 wr => ∃ (i : Nat) (f : Nat → Nat) (l1 : List Bool) (e1 : Int) (L N : Nat), t10 = .int .i64 (N : Int) ∧ t11 = .int .i64 (L : Int) ∧ t13 = .int .i64 (i : Int) ∧ Hid (i ≤ n) ∧ Hid ((i = 0 → l1 = rbits bs ∧ e1 = 0 ∧ L = 0 ∧ N = 0) ∧ RUn W K w W0 wr bs n i f t12 l1 e1 L N)) (fun _ _ _ t13 _ => n - (intOf t13).toNat)
  case atStart => exact ⟨0, _, _, _, 0, 0, rfl, rfl, rfl, Nat.zero_le _, fun _ => ⟨rfl, rfl, rfl, rfl⟩, HT0.out⟩
  case round =>
    obtain ⟨i, f, l1, e1, L, N, rfl, rfl, rfl, hI, HT2⟩ := hrel
    have HT := hideB HT2.out.2
    have hin : i ≤ n := hI.out
    have cE := HT.out.rd.err
    by_cases hlt : i < n
    · by_cases he : e1 = 0
      · subst he
        by_cases h0 : i = 0
        · subst h0
          obtain ⟨hl1, _, hL0, hN0⟩ := HT2.out.1 rfl
          subst hl1 hL0 hN0
          clear HT2
          go_wp2_with fail
          refine (vtk7 w.heap.size W0.heap.size (rbits bs) 0 W wr HT.out.rd hW64).mono ?_
          rintro e w2 ⟨x, l2, e2, rfl, R2, O2, V2⟩
          have hu : USt64 W0.heap.size w2 (fun _ => x) 0 u12 w2 := USt64.congr (HT.out.own.only O2 hbB) (fun j hj => by omega)
          have Hu := hideB hu
          have Hnext := hide (fun (w4 : World) (g4 cap4 : Nat) => USt64.next (w4 := w4) (g := g4) (cap := cap4) hu (t := x) rfl)
          have HR2 := hide (And.intro R2 (And.intro O2 V2))
          clear R2 O2 V2 hu
          go_wp2_with (at_builtin; refine wpList_append_lies _ rfl _ _ _ rfl W0.heap.size 71 i5 (.int .u64 0) 1 8 Tryz.underlying54 Hi.out.1 Hi.out.2.1 Hi.out.2.2.1 Hi.out.2.2.2 rfl (by decide) _ 0 (valsV64 0 (fun _ => x)) rfl (Hu.out.1.alloc _) ⟨w2.heap.size, 0, none⟩ 1 1 [.int .u64 (x : Int)] rfl rfl ?d2 ?d3 (by decide) ?d4 ?d5 ?d7 _ rfl ?d6)
          case d2 => intro j u hj; exact cell_new1 w2 _ 71 j u hj
          case d3 => intro u hu; simp at hu; subst hu; rfl
          case d4 => unfold maxLen; omega
          case d5 => omega
          case d7 => have := Hu.out.2.2; simp; omega
          case d6 =>
            intro g4 cap4 w4 ho4 hg4 hat4 hlt4
            have HN4 : Hid (USt64 W0.heap.size w2 (fun _ => x) 1 (.slice (some ⟨g4, 0, none⟩) 1 cap4) w4) := Hnext.out w4 g4 cap4 ho4 hg4
            clear ho4 hg4 hat4 hlt4 Hnext Hu
            go_wp2_with fail
            go_roundw
            case rel => exact ⟨1, fun _ => x, l2, e2, 0, 0, rfl, rfl, by simp, hlt, fun h => absurd h (by simp), HT.out.first7 HR2.out.1 HR2.out.2.1 hlt HR2.out.2.2 HN4.out⟩
            case measure => simp [intOf]; omega
        · obtain ⟨k, rfl⟩ : ∃ k, i = k + 1 := ⟨i - 1, by omega⟩
          have hk0 : ((k : Int) + 1 == 0) = false := by rw [beq_eq_false_iff_ne]; omega
          obtain ⟨ad12, cap12, hv12, _, hrow⟩ := HT.out.own.row
          subst hv12
          obtain ⟨pb, po, hpb, _⟩ := hrow (by omega)
          subst hpb
          obtain ⟨fk, hfk⟩ : ∃ fk, f k = fk := ⟨_, rfl⟩
          have HFK : Hid (f k = fk ∧ fk < 2 ^ W) := ⟨hfk, by rw [← hfk]; exact HT.out.rng k (by omega)⟩
          have hLN : L + N ≤ W := HT.out.bnd
          clear hrow h0 hfk HT2
          go_wp2_with fail
          refine (vtk7 w.heap.size W0.heap.size l1 0 1 wr HT.out.rd (by omega)).mono ?_
          rintro e w2 ⟨x1, l2, e2, rfl, R2, O2, V2⟩
          have hx1 : x1 = 0 ∨ x1 = 1 := by have := V2.lt; omega
          have H2 := hideB (And.intro R2 (And.intro O2 V2))
          clear R2 O2 V2
          rcases hx1 with rfl | rfl
          · have HX : Hid (0 < 2 ^ W) := Nat.two_pow_pos _
            have HTk : Hid (Taken W K L N l1 0 0 L N l2 e2) := taken_zero H2.out.2.2
            have HRd : Hid (Rr w2 w.heap.size W0.heap.size l2 e2) := H2.out.1
            have HOn : Hid (Only w.heap.size 0 2 wr w2) := H2.out.2.1
            have HS : Hid (USt64 W0.heap.size w2 f (k + 1) (.slice (some ⟨pb, po, none⟩) (k + 1) cap12) w2) := HT.out.own.only HOn.out hbB
            have cK : w2.cell? ⟨pb, po + k, none⟩ = some (.int .u64 (fk : Nat)) := by
              obtain ⟨ad, c, hv, _, hr⟩ := HS.out.row
              simp only [Value.slice.injEq] at hv
              obtain ⟨rfl, _, _⟩ := hv
              obtain ⟨b', o', hb', hc⟩ := hr (by omega)
              simp only [Option.some.injEq, Addr.mk.injEq] at hb'
              obtain ⟨rfl, rfl, _⟩ := hb'
              rw [← HFK.out.1]; exact hc k (by omega)

            obtain ⟨y, hy⟩ : ∃ y, y = fk ^^^ 0 := ⟨_, rfl⟩
            have qx : bits BinOp.xor IntKind.u64 (fk : Int) 0 = (y : Int) := by rw [hy]; exact u64_xor_nat fk 0 (by have := HFK.out.2; have := HW.out; omega) (by have := HX.out; have := HW.out; omega)
            obtain ⟨F, hF⟩ : ∃ F : Nat → Nat, F = fun j => if j = k + 1 then y else f j := ⟨_, rfl⟩
            have HF1 : Hid (F (k + 1) = y ∧ ∀ j, j < k + 1 → F j = f j) := ⟨by rw [hF]; simp, fun j hj => by rw [hF]; simp; omega⟩
            have hu : USt64 W0.heap.size w2 F (k + 1) (.slice (some ⟨pb, po, none⟩) (k + 1) cap12) w2 := USt64.congr HS.out (fun j hj => (HF1.out.2 j hj).symm)
            have Hu := hideB hu
            have Hnext := hide (fun (w9 : World) (g4 cap4 : Nat) => USt64.next (w4 := w9) (g := g4) (cap := cap4) hu HF1.out.1.symm)
            have HY : Hid (y = fk ^^^ 0) := hy
            clear hF hu hy
            go_wp2_with (at_builtin; refine wpList_append_lies _ rfl _ _ _ rfl W0.heap.size 71 i5 (.int .u64 0) 1 8 Tryz.underlying54 Hi.out.1 Hi.out.2.1 Hi.out.2.2.1 Hi.out.2.2.2 rfl (by decide) _ (k + 1) (valsV64 (k + 1) F) rfl (Hu.out.1.alloc _) ⟨w2.heap.size, 0, none⟩ 1 1 [.int .u64 (y : Int)] rfl rfl ?d2 ?d3 (by decide) ?d4 ?d5 ?d7 _ rfl ?d6)
            case d2 => intro j u hj; exact cell_new1 w2 _ 71 j u hj
            case d3 => intro u hu; simp at hu; subst hu; rfl
            case d4 => unfold maxLen; omega
            case d5 => omega
            case d7 => have := Hu.out.2.2; simp; omega
            case d6 =>
              intro g4 cap4 w9 ho4 hg4 hat4 hlt4
              have HN4 : Hid (USt64 W0.heap.size w2 F (k + 2) (.slice (some ⟨g4, 0, none⟩) (k + 2) cap4) w9) := Hnext.out w9 g4 cap4 ho4 hg4
              clear ho4 hg4 hat4 hlt4 HS Hnext Hu
              go_wp2_with fail
              go_roundw
              case rel => exact ⟨k + 2, F, l2, e2, L, N, rfl, rfl, by simp; omega, hlt, fun h => absurd h (by omega), HT.out.next7 HRd.out HOn.out hlt HX.out hLN HTk.out HFK.out.1 HY.out HF1.out.1 HF1.out.2 HN4.out⟩
              case measure => simp [intOf]; omega

          · go_wp2_with fail
            refine (vtk7 w.heap.size W0.heap.size l2 e2 1 w2 H2.out.1 (by omega)).mono ?_
            rintro e w3 ⟨x2, l3, e3, rfl, R3, O3, V3⟩
            have hx2 : x2 = 0 ∨ x2 = 1 := by have := V3.lt; omega
            have H3 := hideB (And.intro R3 (And.intro O3 V3))
            clear R3 O3 V3
            rcases hx2 with rfl | rfl
            · have hnf : ¬ (W : Int) < (L : Int) + (N : Int) := by omega
              go_wp2_with fail
              refine (vtk7 w.heap.size W0.heap.size l3 e3 N w3 H3.out.1 (by omega)).mono ?_
              rintro e w4 ⟨x3, l4, e4, rfl, R4, O4, V4⟩
              obtain ⟨sh, hsh⟩ : ∃ sh, sh = W - L - N := ⟨_, rfl⟩
              have ht2 : (W : Int) - (L : Int) - (N : Int) = (sh : Int) := by omega
              have hs3 : sh ≤ 64 := by omega
              obtain ⟨x, hx⟩ : ∃ x, x = x3 * 2 ^ sh := ⟨_, rfl⟩
              obtain ⟨k1, k2⟩ := shl_nat x3 sh N W V4.lt (by omega) hW64
              rw [← hx] at k1 k2
              have HX := hideB k1
              have HTk : Hid (Taken W K L N l1 0 x L N l4 e4) := by rw [hx, hsh]; exact taken_old hW64 hLN H2.out.2.2 H3.out.2.2 V4
              have HRd := hideB R4
              have HOn : Hid (Only w.heap.size 0 2 wr w4) := (H2.out.2.1.trans H3.out.2.1).trans O4
              clear R4 O4 V4 hx hsh k1
              have HS : Hid (USt64 W0.heap.size w4 f (k + 1) (.slice (some ⟨pb, po, none⟩) (k + 1) cap12) w4) := HT.out.own.only HOn.out hbB
              have cK : w4.cell? ⟨pb, po + k, none⟩ = some (.int .u64 (fk : Nat)) := by
                obtain ⟨ad, c, hv, _, hr⟩ := HS.out.row
                simp only [Value.slice.injEq] at hv
                obtain ⟨rfl, _, _⟩ := hv
                obtain ⟨b', o', hb', hc⟩ := hr (by omega)
                simp only [Option.some.injEq, Addr.mk.injEq] at hb'
                obtain ⟨rfl, rfl, _⟩ := hb'
                rw [← HFK.out.1]; exact hc k (by omega)

              obtain ⟨y, hy⟩ : ∃ y, y = fk ^^^ x := ⟨_, rfl⟩
              have qx : bits BinOp.xor IntKind.u64 (fk : Int) (x : Int) = (y : Int) := by rw [hy]; exact u64_xor_nat _ _ (by have := HFK.out.2; have := HW.out; omega) (by have := HX.out; have := HW.out; omega)
              obtain ⟨F, hF⟩ : ∃ F : Nat → Nat, F = fun j => if j = k + 1 then y else f j := ⟨_, rfl⟩
              have HF1 : Hid (F (k + 1) = y ∧ ∀ j, j < k + 1 → F j = f j) := ⟨by rw [hF]; simp, fun j hj => by rw [hF]; simp; omega⟩
              have hu : USt64 W0.heap.size w4 F (k + 1) (.slice (some ⟨pb, po, none⟩) (k + 1) cap12) w4 := USt64.congr HS.out (fun j hj => (HF1.out.2 j hj).symm)
              have Hu := hideB hu
              have Hnext := hide (fun (w9 : World) (g4 cap4 : Nat) => USt64.next (w4 := w9) (g := g4) (cap := cap4) hu HF1.out.1.symm)
              have HY : Hid (y = fk ^^^ x) := hy
              clear hF hu hy
              go_wp2_with (first | simp only [ht2, k2] | (at_builtin; refine wpList_append_lies _ rfl _ _ _ rfl W0.heap.size 71 i5 (.int .u64 0) 1 8 Tryz.underlying54 Hi.out.1 Hi.out.2.1 Hi.out.2.2.1 Hi.out.2.2.2 rfl (by decide) _ (k + 1) (valsV64 (k + 1) F) rfl (Hu.out.1.alloc _) ⟨w4.heap.size, 0, none⟩ 1 1 [.int .u64 (y : Int)] rfl rfl ?d2 ?d3 (by decide) ?d4 ?d5 ?d7 _ rfl ?d6))
              case d2 => intro j u hj; exact cell_new1 w4 _ 71 j u hj
              case d3 => intro u hu; simp at hu; subst hu; rfl
              case d4 => unfold maxLen; omega
              case d5 => omega
              case d7 => have := Hu.out.2.2; simp; omega
              case d6 =>
                intro g4 cap4 w9 ho4 hg4 hat4 hlt4
                have HN4 : Hid (USt64 W0.heap.size w4 F (k + 2) (.slice (some ⟨g4, 0, none⟩) (k + 2) cap4) w9) := Hnext.out w9 g4 cap4 ho4 hg4
                clear ho4 hg4 hat4 hlt4 HS Hnext Hu
                go_wp2_with fail
                go_roundw
                case rel => exact ⟨k + 2, F, l4, e4, L, N, rfl, rfl, by simp; omega, hlt, fun h => absurd h (by omega), HT.out.next7 HRd.out HOn.out hlt HX.out hLN HTk.out HFK.out.1 HY.out HF1.out.1 HF1.out.2 HN4.out⟩
                case measure => simp [intOf]; omega

            · go_wp2_with fail
              refine (vtk7 w.heap.size W0.heap.size l3 e3 K w3 H3.out.1 (by omega)).mono ?_
              rintro e w4 ⟨A, l4, e4, rfl, R4, O4, V4⟩
              have hA : A < 64 := by have := V4.lt; have h9 := HW.out.1; omega
              have H4 := hideB (And.intro R4 (And.intro O4 V4))
              clear R4 O4 V4
              go_wp2_with fail
              refine (vtk7 w.heap.size W0.heap.size l4 e4 K w4 H4.out.1 (by omega)).mono ?_
              rintro e w5 ⟨Bq, l5, e5, rfl, R5, O5, V5⟩
              have hBq : Bq < 64 := by have := V5.lt; have h9 := HW.out.1; omega
              have H5 := hideB (And.intro R5 (And.intro O5 V5))
              clear R5 O5 V5
              by_cases hfar : W < A + (Bq + 1)
              · have hf1 : (W : Int) < (A : Int) + ((Bq : Int) + 1) := by omega
                have HNo : Hid (¬ ∃ h, PacksW W K bs h n) := HT.out.full.far hlt (taken_far hW64 (Nat.le_of_eq HW.out.1) H2.out.2.2 H3.out.2.2 H4.out.2.2 H5.out.2.2 hfar)
                have HBe : Hid (Below w.heap.size w w5) := HT.out.bel.trans ((((H2.out.2.1.trans H3.out.2.1).trans H4.out.2.1).trans H5.out.2.1).below (Nat.le_refl _) HT.out.bel.size)
                go_wp2_with fail
                go_ret2
                exact .inl ⟨rfl, HBe.out, HNo.out⟩
              · have hf1 : ¬ (W : Int) < (A : Int) + ((Bq : Int) + 1) := by omega
                go_wp2_with fail
                refine (vtk7 w.heap.size W0.heap.size l5 e5 (Bq + 1) w5 H5.out.1 (by omega)).mono ?_
                rintro e w6 ⟨x3, l6, e6, rfl, R6, O6, V6⟩
                obtain ⟨sh, hsh⟩ : ∃ sh, sh = W - A - (Bq + 1) := ⟨_, rfl⟩
                have ht2 : (W : Int) - (A : Int) - ((Bq : Int) + 1) = (sh : Int) := by omega
                have hs3 : sh ≤ 64 := by omega
                obtain ⟨x, hx⟩ : ∃ x, x = x3 * 2 ^ sh := ⟨_, rfl⟩
                obtain ⟨k1, k2⟩ := shl_nat x3 sh (Bq + 1) W V6.lt (by omega) hW64
                rw [← hx] at k1 k2
                have HX := hideB k1
                have HTk : Hid (Taken W K L N l1 0 x A (Bq + 1) l6 e6) := by rw [hx, hsh]; exact taken_new hW64 (Nat.le_of_eq HW.out.1) H2.out.2.2 H3.out.2.2 H4.out.2.2 H5.out.2.2 V6
                have HRd := hideB R6
                have HOn : Hid (Only w.heap.size 0 2 wr w6) := (((H2.out.2.1.trans H3.out.2.1).trans H4.out.2.1).trans H5.out.2.1).trans O6
                have hAB : A + (Bq + 1) ≤ W := by omega
                clear R6 O6 V6 hx hsh k1
                have HS : Hid (USt64 W0.heap.size w6 f (k + 1) (.slice (some ⟨pb, po, none⟩) (k + 1) cap12) w6) := HT.out.own.only HOn.out hbB
                have cK : w6.cell? ⟨pb, po + k, none⟩ = some (.int .u64 (fk : Nat)) := by
                  obtain ⟨ad, c, hv, _, hr⟩ := HS.out.row
                  simp only [Value.slice.injEq] at hv
                  obtain ⟨rfl, _, _⟩ := hv
                  obtain ⟨b', o', hb', hc⟩ := hr (by omega)
                  simp only [Option.some.injEq, Addr.mk.injEq] at hb'
                  obtain ⟨rfl, rfl, _⟩ := hb'
                  rw [← HFK.out.1]; exact hc k (by omega)

                obtain ⟨y, hy⟩ : ∃ y, y = fk ^^^ x := ⟨_, rfl⟩
                have qx : bits BinOp.xor IntKind.u64 (fk : Int) (x : Int) = (y : Int) := by rw [hy]; exact u64_xor_nat _ _ (by have := HFK.out.2; have := HW.out; omega) (by have := HX.out; have := HW.out; omega)
                obtain ⟨F, hF⟩ : ∃ F : Nat → Nat, F = fun j => if j = k + 1 then y else f j := ⟨_, rfl⟩
                have HF1 : Hid (F (k + 1) = y ∧ ∀ j, j < k + 1 → F j = f j) := ⟨by rw [hF]; simp, fun j hj => by rw [hF]; simp; omega⟩
                have hu : USt64 W0.heap.size w6 F (k + 1) (.slice (some ⟨pb, po, none⟩) (k + 1) cap12) w6 := USt64.congr HS.out (fun j hj => (HF1.out.2 j hj).symm)
                have Hu := hideB hu
                have Hnext := hide (fun (w9 : World) (g4 cap4 : Nat) => USt64.next (w4 := w9) (g := g4) (cap := cap4) hu HF1.out.1.symm)
                have HY : Hid (y = fk ^^^ x) := hy
                clear hF hu hy
                go_wp2_with (first | simp only [ht2, k2] | (at_builtin; refine wpList_append_lies _ rfl _ _ _ rfl W0.heap.size 71 i5 (.int .u64 0) 1 8 Tryz.underlying54 Hi.out.1 Hi.out.2.1 Hi.out.2.2.1 Hi.out.2.2.2 rfl (by decide) _ (k + 1) (valsV64 (k + 1) F) rfl (Hu.out.1.alloc _) ⟨w6.heap.size, 0, none⟩ 1 1 [.int .u64 (y : Int)] rfl rfl ?d2 ?d3 (by decide) ?d4 ?d5 ?d7 _ rfl ?d6))
                case d2 => intro j u hj; exact cell_new1 w6 _ 71 j u hj
                case d3 => intro u hu; simp at hu; subst hu; rfl
                case d4 => unfold maxLen; omega
                case d5 => omega
                case d7 => have := Hu.out.2.2; simp; omega
                case d6 =>
                  intro g4 cap4 w9 ho4 hg4 hat4 hlt4
                  have HN4 : Hid (USt64 W0.heap.size w6 F (k + 2) (.slice (some ⟨g4, 0, none⟩) (k + 2) cap4) w9) := Hnext.out w9 g4 cap4 ho4 hg4
                  clear ho4 hg4 hat4 hlt4 HS Hnext Hu
                  go_wp2_with fail
                  go_roundw
                  case rel => exact ⟨k + 2, F, l6, e6, A, Bq + 1, by simp, rfl, by simp; omega, hlt, fun h => absurd h (by omega), HT.out.next7 HRd.out HOn.out hlt HX.out hAB HTk.out HFK.out.1 HY.out HF1.out.1 HF1.out.2 HN4.out⟩
                  case measure => simp [intOf]; omega

      · have he' : (e1 == 0) = false := by rw [beq_eq_false_iff_ne]; exact he
        have HNo : Hid (¬ ∃ h, PacksW W K bs h n) := fun ⟨h, hP⟩ => he (HT.out.full h hP).1
        have hE : endL l1 e1 = e1 := by unfold endL; rw [if_neg he]
        have HV := hideB (vend_any w.heap.size W0.heap.size l1 e1 wr HT.out.rd)
        rw [hE] at HV
        have he2 : (e1 != 0) = true := by simp [he]
        clear hE he
        go_wp2_with fail
        refine HV.out.mono ?_
        rintro e w3 ⟨rfl, hw3⟩
        have hw3 := hw3.symm
        subst hw3
        go_wp2_with fail
        go_ret2
        exact .inl ⟨rfl, HT.out.bel, HNo.out⟩
    · obtain rfl : i = n := by omega
      have HV := hideB (vend_any w.heap.size W0.heap.size l1 e1 wr HT.out.rd)
      clear cE HT2
      go_wp2_with fail
      refine HV.out.mono ?_
      rintro e w3 ⟨rfl, hw3⟩
      have hw3 := hw3.symm
      subst hw3
      by_cases hE : endL l1 e1 = 0
      · rw [hE]
        obtain ⟨ad12, cap12, hv12, _, hrow⟩ := HT.out.own.row
        subst hv12
        have HPk := hideB (rpack7_ok W K ad12 i cap12 f wr hWK hrow hn HT.out.rng)
        clear hrow hE HV
        go_wp2_with fail
        refine HPk.out.mono ?_
        rintro e w4 ⟨v4, rfl, o4, B4⟩
        have hB4 : Below w.heap.size w w4 := HT.out.bel.trans (B4.mono HT.out.bel.size)
        have hc1 := convert_by w4 v4 _ (by_of_row o4)
        have hc2 := convert_by w4 v bs (isBy_below H.out hB4)
        have HO4 : Hid (w4.ownsRow w.heap.size 71 1 (.slice ad12 i cap12) i (valsV64 i f) ∧ Below w.heap.size w w4) := by
          refine ⟨?_, hB4⟩
          have h1 := ownsRow_keep HT.out.own.1 (fun g hg => B4.block g (HT.out.own.1.lt g hg).2)
          refine ⟨h1.1, ?_⟩
          rcases h1.2 with h2 | ⟨g, cap, cur, h0, h4, h5⟩
          · exact .inl h2
          · exact .inr ⟨g, cap, cur, h0, by omega, h5⟩
        have HEq : Hid ((strOf (packed (cbn W K f i))).toList = (strOf bs).toList ↔ packed (cbn W K f i) = bs) := ⟨fun hh => strOf_inj (packed_lt _) HB.out hh, fun hh => by rw [hh]⟩
        clear o4 B4 hB4 HPk
        by_cases heq : packed (cbn W K f i) = bs
        · have hs := HEq.out.2 heq
          have HP : Hid (PacksW W K bs f i) := ⟨HT.out.rng, heq⟩
          generalize strOf (packed (cbn W K f i)) = s1 at *
          generalize strOf bs = s2 at *
          have hs' : (s1.toList == s2.toList) = true := by rw [hs]; simp
          clear heq HEq hs
          go_wp2_with fail
          go_ret2
          exact .inr ⟨_, f, rfl, HO4.out.1, HO4.out.2, HP.out, fun h hP => (HT.out.full h hP).2.1⟩
        · have hs := fun hh => heq (HEq.out.1 hh)
          have HNo : Hid (¬ ∃ h, PacksW W K bs h i) := fun ⟨h, hP⟩ => heq (by rw [cbn_congr W K f h i (HT.out.full h hP).2.1]; exact hP.2)
          generalize strOf (packed (cbn W K f i)) = s1 at *
          generalize strOf bs = s2 at *
          have hs' : (s1.toList == s2.toList) = false := by rw [beq_eq_false_iff_ne]; exact hs
          clear heq HEq hs
          go_wp2_with fail
          go_ret2
          exact .inl ⟨rfl, HO4.out.2, HNo.out⟩
      · have hE' : (endL l1 e1 != 0) = true := by simp [hE]
        have HE := hide hE
        clear hE
        go_wp2_with fail
        go_ret2
        exact .inl ⟨rfl, HT.out.bel, fun ⟨h, hP⟩ => HE.out (HT.out.ended hP)⟩

theorem runpack7_count (W : Nat) (v : Value) (n : Int) (w : World) (hn : n < 0 ∨ 4096 < n) :
    Calls Tryz.prog 32 #[v, .int .i64 n, .int .i64 W] w fun e w' => e = .returned (.tuple #[.slice none 0 0, .int .i64 70]) ∧ w' = w := by
  by_cases h0 : n < 0
  · go_enter Tryz.func32, Tryz.ntmps32
    go_wp2_with fail
    go_ret2
    exact ⟨rfl, rfl⟩
  · have h1 : 4096 < n := by omega
    have h0' : decide (n < 0) = false := by rw [decide_eq_false_iff_not]; exact h0
    go_enter Tryz.func32, Tryz.ntmps32
    go_wp2_with fail
    go_ret2
    exact ⟨rfl, rfl⟩

end Go.Proofs.YtnjcedlbdjidiaaGreatDoor

/- The Book and the Late, a step at a time. -/
namespace Go.Proofs.YtnjcedlbdjidiaaGreatDoor
open Go.RowKit
open M
set_option linter.unusedVariables false
set_option linter.unusedSimpArgs false

/-- What an answer must hold lies apart from the Book's rows of a kind. -/
theorem GOk.sepK {K : Kd} {w : World} {NB base : Nat} {rb ro : Option Nat} {E : List Ent} {A : Nat} {g : Got} (h : GOk w base g) (hs : KSt K w NB base rb ro E A) (h0 : 0 < g.bs.length) {k : Nat} (hk : g.u.ownBlock = some k) : ¬ (k = NB ∨ rb = some k ∨ ro = some k) := by
  obtain ⟨b, cap, k1, k2, k3, k4⟩ := h.want
  have hb : b = k := by rw [k1] at hk; simpa [Value.ownBlock] using hk
  subst hb
  have c1 := k4 0 h0
  obtain ⟨vb, x1, x2, x3⟩ := hs.rows
  obtain ⟨vo, y1, y2, y3⟩ := hs.nums
  have hN := hs.le.2.1
  rintro (hh | hh | hh)
  · omega
  · have hne : E ≠ [] := fun e => by have := (hs.le.2.2 e).1; rw [this] at hh; cases hh
    obtain ⟨e, E', hEe⟩ := List.exists_cons_of_ne_nil hne
    obtain ⟨_, _, _, _, _, h4⟩ := row_form x2
    have c2 := (h4 b (x3.trans hh)).2.2.2 0 e.v (by rw [hEe]; rfl)
    obtain ⟨p, c, hv, -⟩ := row_form (hs.ok e (by rw [hEe]; simp)).1
    rw [c1, hv] at c2
    cases c2
  · have hne : E ≠ [] := fun e => by have := (hs.le.2.2 e).2; rw [this] at hh; cases hh
    obtain ⟨e, E', hEe⟩ := List.exists_cons_of_ne_nil hne
    obtain ⟨_, _, _, _, _, h4⟩ := row_form y2
    have c2 := (h4 b (y3.trans hh)).2.2.2 0 (.int .i64 (e.m : Int)) (by rw [hEe]; rfl)
    rw [c1] at c2
    cases c2

/-- What is kept lies in blocks that are there. -/
theorem BL.dbLt {L : List Kd} {w : World} {NB NL base : Nat} {F : Nat → KV} {T D U : Nat} {rg rw_ : Option Nat} {G : List Got} (h : BL L w NB NL base F T D U rg rw_ G) {k : Nat} (hk : DB L F G k) : k < w.heap.size := by
  rcases hk with ⟨K, hK, e, he, hk⟩ | ⟨g, hg, hk | hk⟩
  · exact (row_ge ((h.book.st K hK).ok e he).1 hk).2
  · exact (row_ge (h.late.ok g hg).got hk).2
  · obtain ⟨b, cap, k1, k2, k3, _⟩ := (h.late.ok g hg).want
    rw [k1] at hk
    simp only [Value.ownBlock, Option.some.injEq] at hk
    omega

/-- The Book's rows, and the Late's, lie in blocks from base on. -/
theorem BL.rowGe {L : List Kd} {w : World} {NB NL base : Nat} {F : Nat → KV} {T D U : Nat} {rg rw_ : Option Nat} {G : List Got} (h : BL L w NB NL base F T D U rg rw_ G) {k : Nat} (hk : (∃ K ∈ L, (F K.c).rb = some k ∨ (F K.c).ro = some k) ∨ rg = some k ∨ rw_ = some k) : base ≤ k ∧ k < w.heap.size := by
  rcases hk with ⟨K, hK, hk | hk⟩ | hk | hk
  · obtain ⟨v, _, x2, x3⟩ := (h.book.st K hK).rows
    exact row_ge x2 (x3.trans hk)
  · obtain ⟨v, _, x2, x3⟩ := (h.book.st K hK).nums
    exact row_ge x2 (x3.trans hk)
  · obtain ⟨v, _, x2, x3⟩ := h.late.gots
    exact row_ge x2 (x3.trans hk)
  · obtain ⟨v, _, x2, x3⟩ := h.late.wants
    exact row_ge x2 (x3.trans hk)

/-- A list of another kind than bytes is taken. -/
theorem BL.take {L : List Kd} (hL : KOk L) (hB : kB ∈ L) {w w' : World} {NB NL base : Nat} {F : Nat → KV} {T D U : Nat} {rg rw_ : Option Nat} {G : List Got} (h : BL L w NB NL base F T D U rg rw_ G) {K : Kd} (hK : K ∈ L) (hK0 : K.c ≠ 0) {p : Option Addr} {n m : Nat} {xs : List Value} (hn : n ≤ 50000)
    (hv : w.ownsRow base K.te 1 (.slice p n n) n xs) (htot : T + 1 + G.length ≤ 2000) (hnew : ∀ k, (Value.slice p n n).ownBlock = some k → ¬ DB L F G k)
    (ha : AddPost K w NB base (F K.c).rb (F K.c).ro (F K.c).E (F K.c).A T D ⟨.slice p n n, n, m⟩ w') :
    ∃ F' U', BL L w' NB NL base F' (T + 1) D U' rg rw_ G ∧ (∀ k, DB L F' G k → DB L F G k ∨ (Value.slice p n n).ownBlock = some k) ∧ (∀ k, BkRows L NB F' k → BkRows L NB F k ∨ w.heap.size ≤ k) ∧ Chg (fun k => BkRows L NB F k ∨ (Value.slice p n n).ownBlock = some k) w w' := by
  obtain ⟨rb', ro', E', U', B1, hE, t1, t2, C⟩ := h.book.taken hL hK (e := ⟨.slice p n n, n, m⟩) hv ha
  have hE : E' = (F K.c).E ∨ E' = (F K.c).E ++ [⟨.slice p n n, n, m⟩] := hE
  have C : Chg (fun k => k = NB ∨ (F K.c).rb = some k ∨ (F K.c).ro = some k ∨ (Value.slice p n n).ownBlock = some k) w w' := C
  have s := h.book.st K hK
  obtain ⟨vb, x1, x2, x3⟩ := s.rows
  obtain ⟨vo, y1, y2, y3⟩ := s.nums
  have hNB := s.le.2.1
  have hNL := h.late.lt
  have hll := hL.ll kB hB K hK (fun e => hK0 e.symm)
  have e1 : K.te ≠ 59 := hL.el K hK kB hB
  have e2 : 5 ≠ K.tl := hL.el kB hB K hK
  have e3 : 5 ≠ K.te := hll.2
  have nNL : ¬ (NL = NB ∨ (F K.c).rb = some NL ∨ (F K.c).ro = some NL ∨ (Value.slice p n n).ownBlock = some NL) := fun hh => by
    rcases hh with hh | hh | hh | hh
    · exact h.ne hh.symm
    · have := (row_ge x2 (x3.trans hh)).1; omega
    · have := (row_ge y2 (y3.trans hh)).1; omega
    · have := (row_ge hv hh).1; omega
  refine ⟨_, U', ⟨B1, h.late.chg C nNL (fun k hk hh => ?_) (fun g hg k hk hh => ?_) (fun g hg k hk h0 hh => ?_), h.ne, fun K' hK' => ?_, fun K' hK' => ?_, by omega, fun K' hK' k hk => ?_, fun g hg e he => ?_, h.gg, Nat.le_trans h.base_ C.size⟩, fun k hk => ?_, fun k hk => ?_, C.mono fun k _ hk => ?_⟩
  · obtain ⟨vg, a1, a2, a3⟩ := h.late.gots
    obtain ⟨vw, b1, b2, b3⟩ := h.late.wants
    rcases hh with hh | hh | hh | hh
    · subst hh
      have := (h.rowGe (.inr hk)).1; omega
    · have := h.rows K hK k hh
      rcases hk with hk | hk
      · exact this.1 hk
      · exact this.2 hk
    · rcases hk with hk | hk
      · exact rows_ne a2 y2 (by decide) (a3.trans hk) (y3.trans hh)
      · exact rows_ne b2 y2 (by decide) (b3.trans hk) (y3.trans hh)
    · rcases hk with hk | hk
      · exact rows_ne a2 hv (Ne.symm e1) (a3.trans hk) hh
      · exact rows_ne b2 hv (Ne.symm e1) (b3.trans hk) hh
  · have gv := (h.late.ok g hg).got
    rcases hh with hh | hh | hh | hh
    · subst hh; have := (row_ge gv hk).1; omega
    · exact rows_ne gv x2 e2 hk (x3.trans hh)
    · exact rows_ne gv y2 (by decide) hk (y3.trans hh)
    · exact rows_ne gv hv e3 hk hh
  · have := (h.late.ok g hg).sepK s h0 hk
    rcases hh with hh | hh | hh | hh
    · exact this (.inl hh)
    · exact this (.inr (.inl hh))
    · exact this (.inr (.inr hh))
    · exact hnew k hh (.inr ⟨g, hg, .inr hk⟩)
  · by_cases hc : K'.c = K.c
    · rw [hc, upd_same]
      have h9 := h.fresh K hK
      rcases hE with rfl | rfl
      · exact h9
      · intro i e hi he
        have hi : (F K.c).A ≤ i := hi
        have he : ((F K.c).E ++ [⟨.slice p n n, n, m⟩])[i]? = some e := he
        by_cases hlt : i < (F K.c).E.length
        · rw [List.getElem?_append_left hlt] at he; exact h9 i e hi he
        · rw [List.getElem?_append_right (by omega)] at he
          have h0 : i - (F K.c).E.length = 0 := by
            rcases Nat.eq_zero_or_pos (i - (F K.c).E.length) with h0 | h0
            · exact h0
            · rw [List.getElem?_eq_none (by simp; omega)] at he; cases he
          rw [h0] at he
          simp only [List.getElem?_cons_zero, Option.some.injEq] at he
          subst he
          exact ⟨hn, p, rfl⟩
    · rw [upd_ne _ _ hc]; exact h.fresh K' hK'
  · by_cases hc : K'.c = K.c
    · rw [hc, upd_same]
      have h9 := h.cnt K hK
      have hA : (F K.c).A ≤ (F K.c).E.length := s.le.1
      show E'.length + 96 * (E'.length - (F K.c).A) ≤ _
      rcases hE with rfl | rfl
      · omega
      · simp only [List.length_append, List.length_cons, List.length_nil]; omega
    · rw [upd_ne _ _ hc]
      have := h.cnt K' hK'
      omega
  · by_cases hc : K'.c = K.c
    · rw [hc, upd_same] at hk
      have hk : rb' = some k := hk
      rcases t1 with t1 | ⟨g, t1, t3⟩
      · rw [t1] at hk; exact h.rows K hK k hk
      · rw [t1] at hk
        simp only [Option.some.injEq] at hk
        subst hk
        exact ⟨fun hh => by have := (h.rowGe (.inr (.inl hh))).2; omega, fun hh => by have := (h.rowGe (.inr (.inr hh))).2; omega⟩
    · rw [upd_ne _ _ hc] at hk; exact h.rows K' hK' k hk
  · rw [upd_ne _ _ (Ne.symm hK0)] at he
    exact h.ge g hg e he
  · rcases hk with ⟨K', hK', e, he, hk⟩ | hk
    · by_cases hc : K'.c = K.c
      · rw [hc, upd_same] at he
        have he : e ∈ E' := he
        rcases hE with rfl | rfl
        · exact .inl (.inl ⟨K, hK, e, he, hk⟩)
        · simp only [List.mem_append, List.mem_singleton] at he
          rcases he with he | rfl
          · exact .inl (.inl ⟨K, hK, e, he, hk⟩)
          · exact .inr hk
      · rw [upd_ne _ _ hc] at he
        exact .inl (.inl ⟨K', hK', e, he, hk⟩)
    · exact .inl (.inr hk)
  · rcases hk with hk | ⟨K', hK', hk⟩
    · exact .inl (.inl hk)
    · by_cases hc : K'.c = K.c
      · rw [hc, upd_same] at hk
        have hk : rb' = some k ∨ ro' = some k := hk
        rcases hk with hk | hk
        · rcases t1 with t1 | ⟨g, t1, t3⟩
          · rw [t1] at hk; exact .inl (.inr ⟨K, hK, .inl hk⟩)
          · rw [t1] at hk; simp only [Option.some.injEq] at hk; subst hk; exact .inr t3
        · rcases t2 with t2 | ⟨g, t2, t3⟩
          · rw [t2] at hk; exact .inl (.inr ⟨K, hK, .inr hk⟩)
          · rw [t2] at hk; simp only [Option.some.injEq] at hk; subst hk; exact .inr t3
      · rw [upd_ne _ _ hc] at hk
        exact .inl (.inr ⟨K', hK', hk⟩)
  · rcases hk with hk | hk | hk | hk
    · exact .inl (.inl hk)
    · exact .inl (.inr ⟨K, hK, .inl hk⟩)
    · exact .inl (.inr ⟨K, hK, .inr hk⟩)
    · exact .inr hk

/-- What Add of the Late may change. -/
def LRows (NL : Nat) (rg rw_ : Option Nat) (k : Nat) : Prop := k = NL ∨ rg = some k ∨ rw_ = some k

/-- An answer goes into the Late. -/
theorem BL.put {L : List Kd} (hL : KOk L) (hB : kB ∈ L) {w w' : World} {NB NL base : Nat} {F : Nat → KV} {T D U : Nat} {rg rw_ : Option Nat} {G : List Got} (h : BL L w NB NL base F T D U rg rw_ G) {v : Value} {bs : List Nat} (htot : T + (G.length + 1) ≤ 2000) (hnew : ∀ k, v.ownBlock = some k → ¬ DB L F G k)
    (hp : LatePost w NL base rg rw_ G v bs w') :
    ∃ rg' rw' u, BL L w' NB NL base F T D U rg' rw' (G ++ [⟨v, u, bs⟩]) ∧ (∃ k, u.ownBlock = some k ∧ w.heap.size ≤ k) ∧ (∀ k, LRows NL rg' rw' k → LRows NL rg rw_ k ∨ w.heap.size ≤ k) ∧ Chg (LRows NL rg rw_) w w' := by
  obtain ⟨rg', rw', u, S', t1, t2, hu, C⟩ := hp
  obtain ⟨vg, a1, a2, a3⟩ := h.late.gots
  obtain ⟨vw, b1, b2, b3⟩ := h.late.wants
  have hNL := h.late.lt
  have hNB := (h.book.st kB hB).le.2.1
  refine ⟨rg', rw', u, ⟨h.book.chg C (fun k hk hh => ?_) (fun hh => ?_), S', h.ne, h.fresh, h.cnt, by simp; omega, fun K hK k hk => ?_, fun g hg e he k hk => ?_, fun i j gi gj hij hi hj k hk => ?_, Nat.le_trans h.base_ C.size⟩, hu, fun k hk => ?_, C⟩
  · obtain ⟨K, hK, hk⟩ := hk
    have s := h.book.st K hK
    obtain ⟨vb, x1, x2, x3⟩ := s.rows
    obtain ⟨vo, y1, y2, y3⟩ := s.nums
    have e1 : K.te ≠ 59 := hL.el K hK kB hB
    rcases hk with hk | hk | ⟨e, he, hk⟩
    · rcases hh with hh | hh | hh
      · have := (row_ge x2 (x3.trans hk)).1; omega
      · exact (h.rows K hK k hk).1 hh
      · exact (h.rows K hK k hk).2 hh
    · rcases hh with hh | hh | hh
      · have := (row_ge y2 (y3.trans hk)).1; omega
      · exact rows_ne a2 y2 (by decide) (a3.trans hh) (y3.trans hk)
      · exact rows_ne b2 y2 (by decide) (b3.trans hh) (y3.trans hk)
    · have ev := (s.ok e he).1
      rcases hh with hh | hh | hh
      · have := (row_ge ev hk).1; omega
      · exact rows_ne ev a2 e1 hk (a3.trans hh)
      · exact rows_ne ev b2 e1 hk (b3.trans hh)
  · rcases hh with hh | hh | hh
    · exact h.ne hh
    · have := (row_ge a2 (a3.trans hh)).1; omega
    · have := (row_ge b2 (b3.trans hh)).1; omega
  · have hr := h.rows K hK k hk
    have hlt := (h.rowGe (.inl ⟨K, hK, .inl hk⟩)).2
    refine ⟨?_, ?_⟩
    · rcases t1 with t1 | ⟨g, t1, t3⟩
      · rw [t1]; exact hr.1
      · rw [t1]; intro hh; simp only [Option.some.injEq] at hh; omega
    · rcases t2 with t2 | ⟨g, t2, t3⟩
      · rw [t2]; exact hr.2
      · rw [t2]; intro hh; simp only [Option.some.injEq] at hh; omega
  · simp only [List.mem_append, List.mem_singleton] at hg
    rcases hg with hg | rfl
    · exact h.ge g hg e he k hk
    · exact fun hh => hnew k hk (.inl ⟨kB, hB, e, he, hh⟩)
  · by_cases hlt : j < G.length
    · rw [List.getElem?_append_left hlt] at hj
      rw [List.getElem?_append_left (by omega)] at hi
      exact h.gg i j gi gj hij hi hj k hk
    · have hjl : j < (G ++ [(⟨v, u, bs⟩ : Got)]).length := by
        rcases Nat.lt_or_ge j (G ++ [(⟨v, u, bs⟩ : Got)]).length with h1 | h1
        · exact h1
        · rw [List.getElem?_eq_none h1] at hj; cases hj
      have hje : j = G.length := by simp at hjl; omega
      subst hje
      rw [List.getElem?_append_right (Nat.le_refl _), Nat.sub_self] at hj
      simp only [List.getElem?_cons_zero, Option.some.injEq] at hj
      subst hj
      rw [List.getElem?_append_left hij] at hi
      exact fun hh => hnew k hh (.inr ⟨gi, List.mem_of_getElem? hi, .inl hk⟩)
  · rcases hk with hk | hk | hk
    · exact .inl (.inl hk)
    · rcases t1 with t1 | ⟨g, t1, t3⟩
      · rw [t1] at hk; exact .inl (.inr (.inl hk))
      · rw [t1] at hk; simp only [Option.some.injEq] at hk; subst hk; exact .inr t3
    · rcases t2 with t2 | ⟨g, t2, t3⟩
      · rw [t2] at hk; exact .inl (.inr (.inr hk))
      · rw [t2] at hk; simp only [Option.some.injEq] at hk; subst hk; exact .inr t3

/-- Something new is laid beside it. -/
theorem BL.below {L : List Kd} {w w' : World} {NB NL base : Nat} {F : Nat → KV} {T D U : Nat} {rg rw_ : Option Nat} {G : List Got} (h : BL L w NB NL base F T D U rg rw_ G) (hB : Below w.heap.size w w') : BL L w' NB NL base F T D U rg rw_ G :=
  have C : Chg (fun k => w.heap.size ≤ k) w w' := Chg.below hB
  ⟨h.book.chg C (fun k hk hh => by
      obtain ⟨K, hK, hk | hk | ⟨e, he, hk⟩⟩ := hk
      · have := (h.rowGe (.inl ⟨K, hK, .inl hk⟩)).2; omega
      · have := (h.rowGe (.inl ⟨K, hK, .inr hk⟩)).2; omega
      · have := h.dbLt (.inl ⟨K, hK, e, he, hk⟩); omega) (fun hh => by have := h.book.NBlt; omega),
    h.late.chg C (fun hh => by obtain ⟨vg, a1, _⟩ := h.late.gots; have := block_lt_of_cell a1; simp only at this; omega) (fun k hk hh => by have := (h.rowGe (.inr hk)).2; omega) (fun g hg k hk hh => by have := h.dbLt (.inr ⟨g, hg, .inl hk⟩); omega) (fun g hg k hk _ hh => by have := h.dbLt (.inr ⟨g, hg, .inr hk⟩); omega),
    h.ne, h.fresh, h.cnt, h.tot, h.rows, h.ge, h.gg, Nat.le_trans h.base_ hB.size⟩

end Go.Proofs.YtnjcedlbdjidiaaGreatDoor

namespace Go.Proofs.YtnjcedlbdjidiaaGreatDoor
open Go.RowKit
open M
set_option linter.unusedVariables false
set_option linter.unusedSimpArgs false

/-- The cells of a Book that has just been made. -/
def bookZ : Array Value := ((List.range 72).map fun j => if j < 69 ∧ j % 3 ≠ 2 then Value.slice none 0 0 else Value.int .i64 0).toArray

theorem built_book : Tryz.prog.built 50 [] = some bookZ := by kernel_rfl

theorem bookZ_at (j : Nat) (h : j < 72) : bookZ[j]? = some (if j < 69 ∧ j % 3 ≠ 2 then Value.slice none 0 0 else Value.int .i64 0) := by
  unfold bookZ
  rw [List.getElem?_toArray, List.getElem?_map, List.getElem?_range h]
  rfl

theorem run_book (w : World) : (Instr.build 50 #[]).run Tryz.prog w = .ok (.agg bookZ) w := run_build (P := Tryz.prog) w 50 #[] bookZ built_book

theorem wp_book {o : Oper} {a : Act} {w : World} {K : Act → World → Prop} {Q : Exit → Act → World → Prop} (ho : o.op = .build 50 #[]) (h : K (a.put o.dst (.agg bookZ)) w) : o.wp Tryz.prog a w K Q := by
  unfold Oper.wp execOp
  simp only [ho, List.map_toArray, List.map_nil, Sem.run_bind, run_book, Result.andThen_ok]
  exact h

theorem wpList_book {ops : Array Oper} {rest : List Oper} {o : Oper} {a : Act} {w : World} {Q : Exit → Act → World → Prop} (hg : o.guard = none) (ho : o.op = .build 50 #[]) (h : wpList Tryz.prog ops Q rest (a.put o.dst (.agg bookZ)) w) : wpList Tryz.prog ops Q (o :: rest) a w :=
  wpList_plain hg fun K hK => wp_book ho (hK _ _ h)

/-- Nothing of any kind. -/
def F0 : Nat → KV := fun _ => ⟨none, none, [], 0⟩

theorem book_of {L : List Kd} (hL : KOk L) {w : World} {NB base : Nat} (hn : w.heap[NB]? = some (.cells bookZ 50 (0, 0))) (hb : NB < base) : BkSt L w NB base F0 0 0 0 := by
  have c : ∀ j, j < 72 → w.cell? ⟨NB, j, none⟩ = some (if j < 69 ∧ j % 3 ≠ 2 then Value.slice none 0 0 else Value.int .i64 0) := fun j hj => by rw [cell_of_row _ _ _ _ _ _ hn]; exact bookZ_at j hj
  refine ⟨fun K hK => ?_, ⟨fun k hk _ => ⟨by rw [c _ (by omega), if_pos (by omega)], by rw [c _ (by omega), if_pos (by omega)], by rw [c _ (by omega), if_neg (by omega)]⟩, fun j hj => frozen_of_row _ _ _ _ _ hn⟩, ⟨by rw [c 69 (by omega)]; rfl, by rw [c 70 (by omega)]; rfl, by rw [c 71 (by omega)]; rfl, fun i h1 h2 => frozen_of_row _ _ _ _ _ hn, by omega, by omega⟩, fun K1 _ K2 _ _ k hk => by simp [F0] at hk⟩
  have hc := hL.c K hK
  exact ⟨⟨_, by rw [c _ (by omega), if_pos (by omega)], World.ownsRow_nil _ _ _ _, rfl⟩, ⟨_, by rw [c _ (by omega), if_pos (by omega)], World.ownsRow_nil _ _ _ _, rfl⟩, by rw [c _ (by omega), if_neg (by omega)]; rfl, fun i hi => frozen_of_row _ _ _ _ _ hn, fun e he => by simp [F0] at he, by simp [F0], hb, fun _ => ⟨rfl, rfl⟩⟩

theorem late_of {w : World} {NL base : Nat} {t : TypeId} (hn : w.heap[NL]? = some (.cells #[.slice none 0 0, .slice none 0 0] t (0, 0))) (hb : NL < base) : LateSt w NL base none none [] := by
  refine ⟨⟨.slice none 0 0, ?_, World.ownsRow_nil _ _ _ _, rfl⟩, ⟨.slice none 0 0, ?_, World.ownsRow_nil _ _ _ _, rfl⟩, frozen_of_row _ _ _ _ _ hn, frozen_of_row _ _ _ _ _ hn, fun g hg => by simp at hg, fun k hk => by simp at hk, hb, fun _ => ⟨rfl, rfl⟩⟩
  · rw [cell_of_row _ _ _ _ _ _ hn]; rfl
  · rw [cell_of_row _ _ _ _ _ _ hn]; rfl

/-- A look at the Book. -/
theorem BL.look {L : List Kd} (hL : KOk L) (hB : kB ∈ L) {w w' : World} {NB NL base : Nat} {F F' : Nat → KV} {T D U : Nat} {rg rw_ : Option Nat} {G : List Got} (h : BL L w NB NL base F T D U rg rw_ G) (hl : LookSt L w NB base F T U F' w') :
    ∃ D', BL L w' NB NL base F' T D' U rg rw_ G := by
  obtain ⟨D2, BS⟩ := hl.st
  have C := hl.chg
  have hNL := h.late.lt
  have hNB := (h.book.st kB hB).le.2.1
  obtain ⟨vg, a1, a2, a3⟩ := h.late.gots
  obtain ⟨vw, b1, b2, b3⟩ := h.late.wants
  refine ⟨D2, BS, h.late.chg C (fun hh => ?_) (fun k hk hh => ?_) (fun g hg k hk hh => ?_) (fun g hg k hk h0 hh => ?_), h.ne, fun K hK => ?_, fun K hK => ?_, h.tot, fun K hK k hk => ?_, fun g hg e he k hk => ?_, h.gg, Nat.le_trans h.base_ C.size⟩
  · rcases hh with hh | ⟨K, hK, hh⟩
    · exact h.ne hh.symm
    · have := (h.rowGe (.inl ⟨K, hK, hh⟩)).1; omega
  · rcases hh with hh | ⟨K, hK, hh⟩
    · have := (h.rowGe (.inr hk)).1; omega
    · rcases hh with hh | hh
      · have hr := h.rows K hK k hh
        rcases hk with hk | hk
        · exact hr.1 hk
        · exact hr.2 hk
      · obtain ⟨vo, y1, y2, y3⟩ := (h.book.st K hK).nums
        rcases hk with hk | hk
        · exact rows_ne a2 y2 (by decide) (a3.trans hk) (y3.trans hh)
        · exact rows_ne b2 y2 (by decide) (b3.trans hk) (y3.trans hh)
  · have gv := (h.late.ok g hg).got
    rcases hh with hh | ⟨K, hK, hh⟩
    · have := (row_ge gv hk).1; omega
    · obtain ⟨vb, x1, x2, x3⟩ := (h.book.st K hK).rows
      obtain ⟨vo, y1, y2, y3⟩ := (h.book.st K hK).nums
      rcases hh with hh | hh
      · exact rows_ne gv x2 (hL.el kB hB K hK) hk (x3.trans hh)
      · exact rows_ne gv y2 (by decide) hk (y3.trans hh)
  · rcases hh with hh | ⟨K, hK, hh⟩
    · exact (h.late.ok g hg).sepK (h.book.st kB hB) h0 hk (.inl hh)
    · exact (h.late.ok g hg).sepK (h.book.st K hK) h0 hk (.inr hh)
  · obtain ⟨X, x1, x2, x3, hA⟩ := hl.E K hK
    rcases hA with hA | ⟨hX, hA⟩
    · intro k e hk he
      rw [List.getElem?_eq_none (by omega)] at he; cases he
    · have h9 := h.fresh K hK
      intro k e hk he
      rw [x1, hX, List.append_nil] at he
      rw [hA] at hk
      exact h9 k e hk he
  · obtain ⟨X, x1, x2, x3, hA⟩ := hl.E K hK
    have h9 := h.cnt K hK
    rcases hA with hA | ⟨hX, hA⟩
    · rw [hA, Nat.sub_self, x1, List.length_append]; omega
    · rw [hA, x1, hX, List.append_nil]; exact h9
  · rcases hl.rb K hK with t1 | ⟨g, t1, t3⟩
    · rw [t1] at hk; exact h.rows K hK k hk
    · rw [t1] at hk
      simp only [Option.some.injEq] at hk
      subst hk
      exact ⟨fun hh => by have := (h.rowGe (.inr (.inl hh))).2; omega, fun hh => by have := (h.rowGe (.inr (.inr hh))).2; omega⟩
  · obtain ⟨X, x1, x2, x3, hA⟩ := hl.E kB hB
    have x1 : (F' 0).E = (F 0).E ++ X := x1
    rw [x1] at he
    simp only [List.mem_append] at he
    rcases he with he | he
    · exact h.ge g hg e he k hk
    · exact fun hh => by have := x3 e he k hh; have := h.dbLt (.inr ⟨g, hg, .inl hk⟩); omega

/-- All blocks of the Book, the Late and what they keep. -/
def FP (L : List Kd) (NB NL : Nat) (F : Nat → KV) (rg rw_ : Option Nat) (G : List Got) (k : Nat) : Prop := BkRows L NB F k ∨ LRows NL rg rw_ k ∨ DB L F G k

theorem BL.fpLt {L : List Kd} {w : World} {NB NL base : Nat} {F : Nat → KV} {T D U : Nat} {rg rw_ : Option Nat} {G : List Got} (h : BL L w NB NL base F T D U rg rw_ G) {k : Nat} (hk : FP L NB NL F rg rw_ G k) : k < w.heap.size := by
  rcases hk with (hk | ⟨K, hK, hk⟩) | (hk | hk) | hk
  · rw [hk]; exact h.book.NBlt
  · exact (h.rowGe (.inl ⟨K, hK, hk⟩)).2
  · rw [hk]; obtain ⟨vg, a1, _⟩ := h.late.gots; exact block_lt_of_cell a1
  · exact (h.rowGe (.inr hk)).2
  · exact h.dbLt hk

/-- Something else changes. -/
theorem BL.chg {L : List Kd} {S : Nat → Prop} {w w' : World} {NB NL base : Nat} {F : Nat → KV} {T D U : Nat} {rg rw_ : Option Nat} {G : List Got} (h : BL L w NB NL base F T D U rg rw_ G) (C : Chg S w w') (hs : ∀ k, FP L NB NL F rg rw_ G k → ¬ S k) : BL L w' NB NL base F T D U rg rw_ G :=
  ⟨h.book.chg C (fun k hk hh => by
      obtain ⟨K, hK, hk | hk | ⟨e, he, hk⟩⟩ := hk
      · exact hs k (.inl (.inr ⟨K, hK, .inl hk⟩)) hh
      · exact hs k (.inl (.inr ⟨K, hK, .inr hk⟩)) hh
      · exact hs k (.inr (.inr (.inl ⟨K, hK, e, he, hk⟩))) hh) (hs NB (.inl (.inl rfl))),
    h.late.chg C (hs NL (.inr (.inl (.inl rfl)))) (fun k hk => hs k (.inr (.inl (.inr hk)))) (fun g hg k hk => hs k (.inr (.inr (.inr ⟨g, hg, .inl hk⟩)))) (fun g hg k hk _ => hs k (.inr (.inr (.inr ⟨g, hg, .inr hk⟩)))),
    h.ne, h.fresh, h.cnt, h.tot, h.rows, h.ge, h.gg, Nat.le_trans h.base_ C.size⟩

/-- The walk's state: at most n lists were taken, or wait; below w0's blocks nothing has changed. -/
def WSt (L : List Kd) (w0 : World) (NB NL base n : Nat) (wr : World) : Prop :=
  ∃ F T D U rg rw_ G, BL L wr NB NL base F T D U rg rw_ G ∧ T + G.length ≤ n ∧ Below w0.heap.size w0 wr

theorem WSt.start {L : List Kd} (hL : KOk L) {w0 : World} {t : TypeId} : WSt L w0 w0.heap.size (w0.heap.size + 1) (w0.heap.size + 2) 0 ((w0.alloc (.cells bookZ 50)).alloc (.cells #[.slice none 0 0, .slice none 0 0] t)) := by
  have k1 : (w0.alloc (.cells bookZ 50)).heap[w0.heap.size]? = some (.cells bookZ 50 (0, 0)) := heap_alloc_new _ _
  have z1 : (w0.alloc (.cells bookZ 50)).heap.size = w0.heap.size + 1 := by simp
  have b1 : Below w0.heap.size w0 (w0.alloc (.cells bookZ 50)) := (Below.refl _ _).alloc (Nat.le_refl _) _
  generalize w0.alloc (.cells bookZ 50) = wA at *
  have k2 : (wA.alloc (.cells #[.slice none 0 0, .slice none 0 0] t)).heap[wA.heap.size]? = some (.cells #[.slice none 0 0, .slice none 0 0] t (0, 0)) := heap_alloc_new _ _
  have z2 : (wA.alloc (.cells #[.slice none 0 0, .slice none 0 0] t)).heap.size = wA.heap.size + 1 := by simp
  have b2 : Below wA.heap.size wA (wA.alloc (.cells #[.slice none 0 0, .slice none 0 0] t)) := (Below.refl _ _).alloc (Nat.le_refl _) _
  generalize wA.alloc (.cells #[.slice none 0 0, .slice none 0 0] t) = wB at *
  have f1 : wB.heap[w0.heap.size]? = some (.cells bookZ 50 (0, 0)) := by rw [b2.block _ (by omega)]; exact k1
  have f2 : wB.heap[w0.heap.size + 1]? = some (.cells #[.slice none 0 0, .slice none 0 0] t (0, 0)) := by rw [← z1]; exact k2
  refine ⟨F0, 0, 0, 0, none, none, [], ⟨book_of hL f1 (by omega), late_of f2 (by omega), by omega, fun K _ i e _ he => by simp [F0] at he, fun K _ => by simp [F0], by simp, fun K _ k hk => by simp [F0] at hk, fun g hg => by simp at hg, fun a b ga gb _ ha => by simp at ha, by omega⟩, by simp, b1.trans (b2.mono (by omega))⟩

/-- What the Book, the Late and what they keep may change lies from B on. -/
theorem BL.low {L : List Kd} {w : World} {NB NL base : Nat} {F : Nat → KV} {T D U : Nat} {rg rw_ : Option Nat} {G : List Got} (h : BL L w NB NL base F T D U rg rw_ G) {B : Nat} (h1 : B ≤ NB) (h2 : B ≤ NL) (h3 : B ≤ base) {k : Nat} (hk : BkRows L NB F k ∨ LRows NL rg rw_ k ∨ ∃ g ∈ G, g.v.ownBlock = some k) : B ≤ k := by
  rcases hk with (hk | ⟨K, hK, hk⟩) | (hk | hk) | ⟨g, hg, hk⟩
  · omega
  · have := (h.rowGe (.inl ⟨K, hK, hk⟩)).1; omega
  · omega
  · have := (h.rowGe (.inr hk)).1; omega
  · have := (row_ge (h.late.ok g hg).got hk).1; omega

theorem WSt.settle {L : List Kd} {w0 w w' : World} {NB NL base n : Nat} {F : Nat → KV} {T D U : Nat} {rg rw_ : Option Nat} {G : List Got} (h : BL L w NB NL base F T D U rg rw_ G) (hn : T + G.length ≤ n) (hb : Below w0.heap.size w0 w) (h1 : w0.heap.size ≤ NB) (h2 : w0.heap.size ≤ NL) (h3 : w0.heap.size ≤ base) (hp : SettlePost L w NB NL base F T G w') : WSt L w0 NB NL base n w' := by
  obtain ⟨F', T', D', U', rg', rw', G', B', q1, _, C⟩ := hp
  refine ⟨F', T', D', U', rg', rw', G', B', by omega, hb.trans (C.toBelow hb.size fun k hk hh => ?_)⟩
  have : w0.heap.size ≤ k := by
    rcases hh with hh | hh | hh
    · omega
    · exact h.low h1 h2 h3 (.inl hh)
    · exact h.low h1 h2 h3 (.inr (.inr hh))
  omega

theorem WSt.look {L : List Kd} (hL : KOk L) (hB : kB ∈ L) {w0 w w' : World} {NB NL base n : Nat} {F F' : Nat → KV} {T D U : Nat} {rg rw_ : Option Nat} {G : List Got} (h : BL L w NB NL base F T D U rg rw_ G) (hn : T + G.length ≤ n) (hb : Below w0.heap.size w0 w) (h1 : w0.heap.size ≤ NB) (h2 : w0.heap.size ≤ NL) (h3 : w0.heap.size ≤ base) (hl : LookSt L w NB base F T U F' w') : WSt L w0 NB NL base n w' := by
  obtain ⟨D', B'⟩ := h.look hL hB hl
  refine ⟨F', T, D', U, rg, rw_, G, B', hn, hb.trans (hl.chg.toBelow hb.size fun k hk hh => ?_)⟩
  have := h.low h1 h2 h3 (.inl hh)
  omega

theorem WSt.below {L : List Kd} {w0 w w' : World} {NB NL base n : Nat} (h : WSt L w0 NB NL base n w) (hb : Below w.heap.size w w') : WSt L w0 NB NL base n w' := by
  obtain ⟨F, T, D, U, rg, rw_, G, B, q, b⟩ := h
  exact ⟨F, T, D, U, rg, rw_, G, B.below hb, q, b.trans (hb.mono b.size)⟩

/-- A look from the walk's state. -/
theorem WSt.looked {L : List Kd} (hL : KOk L) (hB : kB ∈ L) (hLook : LookOk L) {w0 w : World} {NB NL base n : Nat} (h : WSt L w0 NB NL base n w) (h1 : w0.heap.size ≤ NB) (h2 : w0.heap.size ≤ NL) (h3 : w0.heap.size ≤ base) :
    Calls Tryz.prog 13 #[.pointer (some ⟨NB, 0, none⟩)] w fun q w' => q = .returned (.bool true) ∧ WSt L w0 NB NL base n w' := by
  obtain ⟨F, T, D, U, rg, rw_, G, B, q, b⟩ := h
  refine (hLook NB base F T D U w B.book (fun K hK => by have := B.cnt K hK; have := B.tot; omega) B.base_ B.fresh).mono ?_
  rintro e w' ⟨rfl, F', hl⟩
  exact ⟨rfl, WSt.look hL hB B q b h1 h2 h3 hl⟩

/-- Settle from the walk's state. -/
theorem WSt.settled {L : List Kd} (hL : KOk L) (hB : kB ∈ L) (hLook : LookOk L) {w0 w : World} {NB NL base n : Nat} (h : WSt L w0 NB NL base n w) (h1 : w0.heap.size ≤ NB) (h2 : w0.heap.size ≤ NL) (h3 : w0.heap.size ≤ base) (m : Nat) (hm : m ≤ 1000) :
    Calls Tryz.prog 5 #[.pointer (some ⟨NL, 0, none⟩), .pointer (some ⟨NB, 0, none⟩), .int .i64 m] w fun q w' => q = .returned (.bool true) ∧ WSt L w0 NB NL base n w' := by
  obtain ⟨F, T, D, U, rg, rw_, G, B, q, b⟩ := h
  refine (settle_any hL hB hLook NB NL base F T D U rg rw_ G m w B hm).mono ?_
  rintro e w' ⟨rfl, hp⟩
  exact ⟨rfl, WSt.settle B q b h1 h2 h3 hp⟩

end Go.Proofs.YtnjcedlbdjidiaaGreatDoor

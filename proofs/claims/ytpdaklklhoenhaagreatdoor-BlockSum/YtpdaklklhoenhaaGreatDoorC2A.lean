/- Readings that take what was laid: a number's bits stand there, and it is told. -/
import Derived.Test.YtpdaklklhoenhaaGreatDoorE2A
import Derived.Test.YtpdaklklhoenhaaGreatDoorC1M
import Derived.Deep.AppendLies
import Derived.Deep.CutRange
import Derived.OwnWalk
import Derived.Test.YtpdaklklhoenhaaGreatDoorP1B64
import Derived.Test.YtpdaklklhoenhaaGreatDoorT1A
/- The contract of Unpack (64 bits). -/
namespace Go.Proofs.YtpdaklklhoenhaaGreatDoor
open Go.RowKit
open M
set_option linter.unusedVariables false
set_option linter.unusedSimpArgs false

set_option maxRecDepth 100000 in
set_option maxHeartbeats 2000000 in
theorem takeAll64_any (b : Nat) (s : ByteArray) (n : Nat) (w : World) (h : Rd w b 0 s 0 0) (hn : n ≤ 4096) (hT : Tab64 w) (hTb : 2 ≠ b) :
    Calls Tryz.prog 148 #[.pointer (some ⟨b, 0, none⟩), .int .i64 n] w (TakeAllEnd64 w b s n) := by
  have hbs : b < w.heap.size := block_lt_of_cell h.text
  have hTs : 2 < w.heap.size := block_lt_of_cell (hT 0 (by omega))
  have H := hide h
  have HT := hide hT
  clear h hT
  have hmk := make_vals64 n hn
  have hA : Hid (Below w.heap.size w (w.alloc (.cells (Array.replicate n (Value.int .u64 0)) 41))) := (Below.refl _ w).alloc (Nat.le_refl _) _
  by_cases h0 : n = 0
  · have hne : ((n : Int) == 0) = true := by rw [beq_iff_eq]; omega
    have H0 := hide h0
    clear h0
    go_enter Tryz.func148, Tryz.ntmps148
    go_wp2_with fail
    go_ret2
    refine .inr ⟨0, 0, fun _ => 0, rfl, ?_, H.out.below hA.out hbs, hA.out.mono (Nat.le_of_lt hbs), fun i hi => by have := H0.out; omega, fun _ => by rw [H0.out]; simp [cbn], fun h hB => ⟨rfl, fun i hi => by have := H0.out; omega⟩⟩
    rw [H0.out]; exact UW64.new w 0 _
  have hne : ((n : Int) == 0) = false := by rw [beq_eq_false_iff_ne]; omega
  have hn0 : 0 < n := by omega
  have HN : Hid (UW64 (w.alloc (.cells (Array.replicate n (Value.int .u64 0)) 41)) w.heap.size n 0 (fun _ => 0)) := UW64.new w n _
  have HR : Hid (Rd (w.alloc (.cells (Array.replicate n (Value.int .u64 0)) 41)) b 0 s 0 0) := H.out.below hA.out hbs
  have hs1 : Hid (w.heap.size < (w.alloc (.cells (Array.replicate n (Value.int .u64 0)) 41)).heap.size) := by show _ < _; simp
  have hgb : w.heap.size ≠ b := by omega
  go_enter Tryz.func148, Tryz.ntmps148
  go_upto_region 4 with fail
  generalize w.alloc (.cells (Array.replicate n (Value.int .u64 0)) 41) = W0 at *
  clear hmk
  go_wp2_with fail
  refine (width64_any _).mono ?_
  rintro e wy ⟨rfl, hwy⟩
  have hwy := hwy.symm
  subst hwy
  go_wp2_with fail
  refine (tk_bits b 0 s 0 64 0 W0 HR.out (by omega)).mono ?_
  rintro e w1 ⟨x, a, e1, rfl, hx, T⟩
  have hxM : x < 18446744073709551616 := hx
  have x1 : IntKind.u64.wrap (x : Int) = (x : Int) := wrap_nat64 hxM
  have HX := hide hxM
  clear hx hxM
  have e1b := T.only.block w.heap.size hs1.out hgb
  have R1 : UW64 w1 w.heap.size n 0 (fun _ => 0) := HN.out.ofBlock e1b
  have c1 : w1.cell? ⟨w.heap.size, 0, none⟩ = some (.int .u64 0) := R1.cell 0 (by omega)
  have c2 := R1.fz 0
  obtain ⟨g, hg⟩ : ∃ g, w.heap.size = g := ⟨_, rfl⟩
  have HT1 : Hid (UW64 (w1.setCell ⟨w.heap.size, 0, none⟩ (.int .u64 (x : Int))) w.heap.size n 1 (fun _ => x) ∧ Rd (w1.setCell ⟨w.heap.size, 0, none⟩ (.int .u64 (x : Int))) b 0 s a e1 ∧ Only b 0 3 w (w1.setCell ⟨w.heap.size, 0, none⟩ (.int .u64 (x : Int))) ∧ w.heap.size < (w1.setCell ⟨w.heap.size, 0, none⟩ (.int .u64 (x : Int))).heap.size) := by
    have O1 : Only b 0 3 w w1 := Only.trans ⟨hA.out.os, hA.out.tape, hA.out.output, hA.out.size, fun k hk _ => hA.out.block k hk, fun j _ => World.cell?_of_block (hA.out.block b hbs), fun j => World.frozen?_of_block (w := w) (w' := W0) (a := ⟨b, j, none⟩) (hA.out.block b hbs)⟩ T.only
    refine ⟨(R1.set (by omega) x).congr fun i hi => by rw [if_pos (by omega)], T.rd.setOther' _ 0 hgb _, O1.setOther' _ 0 (Nat.le_refl _) hgb _, ?_⟩
    have := T.only.size
    have := hs1.out
    simp [World.setCell]; omega
  have HTS := hide (And.intro T.sound T.full)
  have c3 := cell_setCell_eq w1 w.heap.size 0 (.int .u64 (x : Int)) _ c1
  clear R1 T e1b
  rw [hg] at c1 c2 c3 HT1 hgb ⊢
  go_upto_region 5 with fail
  generalize w1.setCell ⟨g, 0, none⟩ (.int .u64 (x : Int)) = W1 at *
  clear c1 c2
  have hN2 := heap_alloc_new W1 (.cells #[.int .u64 (x : Int), .int .i64 0, .int .i64 0] 227)
  have B2 : Below W1.heap.size W1 (W1.alloc (.cells #[.int .u64 (x : Int), .int .i64 0, .int .i64 0] 227)) := (Below.refl _ _).alloc (Nat.le_refl _) _
  have HCN : Hid (Cn64 w (W1.alloc (.cells #[.int .u64 (x : Int), .int .i64 0, .int .i64 0] 227)) b W1.heap.size s g n 0 a e1 (fun _ => x) ∧ g < W1.heap.size ∧ Tab64 (W1.alloc (.cells #[.int .u64 (x : Int), .int .i64 0, .int .i64 0] 227))) := by
    have hgs := HT1.out.2.2.2
    have tw : Two64 b W1.heap.size w (W1.alloc (.cells #[.int .u64 (x : Int), .int .i64 0, .int .i64 0] 227)) := (Two64.ofB HT1.out.2.2.1).trans (Two64.ofBelow B2)
    have hbW : b < W1.heap.size := by omega
    refine ⟨⟨HT1.out.1.ofBlock (B2.block g (by omega)), HT1.out.2.1.below B2 hbW, ⟨?_, ?_, ?_, fun i => frozen_of_row _ _ _ _ _ hN2⟩, tw, ?_, fun i hi => HX.out, fun he => ?_, ?_⟩, by omega, tw.tab HT.out hTb (by omega)⟩
    · rw [cell_of_row _ _ _ _ _ _ hN2]; rfl
    · rw [cell_of_row _ _ _ _ _ _ hN2]; rfl
    · rw [cell_of_row _ _ _ _ _ _ hN2]; rfl
    · have := B2.size; omega
    · rw [cbn_one, (HTS.out.1 he).2]; simp
    · rintro h ⟨hr, r, hR⟩
      obtain ⟨r1, h1⟩ := cbn_prefix 64 6 h 1 n (by omega)
      rw [h1, cbn_one, List.append_assoc] at hR
      have he : e1 = 0 := HTS.out.2 (by trivial) (by rw [hR]; simp)
      refine ⟨he, fun i hi => ?_⟩
      obtain rfl : i = 0 := by omega
      have h2 := take_eq_drop' _ _ 0 a (by rw [(HTS.out.1 he).2])
      rw [List.drop_zero, hR] at h2
      exact ((pbits_inj _ _ 64 _ _ (hr 0 (by omega)) HX.out h2).1).symm
  go_wp2_with fail
  obtain ⟨c, hcw⟩ : ∃ c, W1.heap.size = c := ⟨_, rfl⟩
  rw [hcw] at HCN ⊢
  clear hN2 B2 c3 hcw
  generalize W1.alloc (.cells #[.int .u64 (x : Int), .int .i64 0, .int .i64 0] 227) = W2 at *
  have hgc : g < c := HCN.out.2.1
  have hbc : c ≠ b := by omega
  go_loopw [4, 7] (fun t4 t7 wr => ∃ (k a : Nat) (e1 : Int) (f : Nat → Nat), t4 = .slice (some ⟨g, 0, none⟩) n n ∧ t7 = .int .i64 ((k : Int) + 1) ∧ Hid (k < n) ∧ Hid (Cn64 w wr b c s g n k a e1 f ∧ Tab64 wr)) (fun _ t7 _ => n - (intOf t7).toNat)
  case atStart => exact ⟨0, a, e1, _, rfl, rfl, hn0, HCN.out.1, HCN.out.2.2⟩
  case round =>
    clear HT1 HX HCN HTS
    obtain ⟨k, a, e1, f, rfl, rfl, hk, hI⟩ := hrel
    by_cases hlt : k + 1 < n
    · go_wp2_with fail
      refine (take64_any b c s a e1 (f k) (win 64 6 f k).1 (win 64 6 f k).2 wr hI.out.1.rd hI.out.1.col hbc (win_win 64 6 f (by omega) k (fun j hj => hI.out.1.rng j (by omega))) (hI.out.1.rng k (by omega)) hI.out.2 hTb (by omega)).mono ?_
      rintro e w2 ⟨ok, x, a2, e2, rfl, R2, T2, hx, hok, hfull⟩
      have HU := hide hx
      have HS := hide hok
      have HF := hide hfull
      have HR2 := hide R2
      have HT2 := hide T2
      clear hx hok hfull R2 T2
      cases ok with
      | false =>
        go_wp2_with fail
        go_ret2
        refine .inl ⟨rfl, (hI.out.1.two.trans HT2.out).below (Nat.le_refl _) (by omega) (by omega), hI.out.1.none hlt fun h1 y r hy hr => ?_⟩
        have := (HF.out h1 y r hy hr).1
        cases this
      | true =>
        have NX := Cn64.next hlt (Nat.le_of_eq hg) hgb (by omega) hI.out.1 x HU.out HR2.out HT2.out (HS.out rfl).1 (HS.out rfl).2 (fun h y r hy hr => ⟨(HF.out h y r hy hr).2.1, (HF.out h y r hy hr).2.2⟩)
        obtain ⟨q, hq⟩ : ∃ q : Nat, f k ^^^ x = q := ⟨_, rfl⟩
        have cq : w2.cell? ⟨c, 0, none⟩ = some (.int .u64 (q : Int)) := by rw [← hq]; exact (HS.out rfl).1.ahead
        have RW := hI.out.1.row.ofBlock (HT2.out.block g hI.out.1.size hgb (by omega))
        have c2 : w2.cell? ⟨g, k + 1, none⟩ = some (.int .u64 0) := by rw [RW.cell (k + 1) hlt, if_neg (by omega)]; rfl
        have c3 := RW.fz (k + 1)
        rw [hq] at NX
        have HNX := hide NX
        have HTb2 : Hid (Tab64 w2) := HT2.out.tab hI.out.2 hTb (by omega)
        clear NX hq RW
        go_wp2_with fail
        go_roundw
        case rel =>
          refine ⟨k + 1, a2, e2, _, rfl, by simp, hlt, HNX.out, ?_⟩
          exact fun j hj => by
            rw [World.cell?_of_block (w := w2) (Below.heap_setCell _ _ _ _ (show 2 ≠ g by omega))]; exact HTb2.out j hj
        case measure => simp [intOf]; omega
    · go_wp2_with fail
      go_ret2
      obtain rfl : n = k + 1 := by have := hk.out; omega
      refine .inr ⟨a, e1, f, by rw [hg]; rfl, by rw [hg]; exact hI.out.1.row, hI.out.1.rd, hI.out.1.two.below (Nat.le_refl _) (by omega) (by omega), hI.out.1.rng, hI.out.1.sound, hI.out.1.full⟩

end Go.Proofs.YtpdaklklhoenhaaGreatDoor

namespace Go.Proofs.YtpdaklklhoenhaaGreatDoor
open Go.RowKit
open M
set_option linter.unusedVariables false
set_option linter.unusedSimpArgs false

/-- The bytes are those of n values h. -/
def Packs64 (bs : List Nat) (h : Nat → Nat) (n : Nat) : Prop := (∀ i, i < n → h i < 18446744073709551616) ∧ packed (cbn 64 6 h n) = bs

theorem begins_of64 {bs : List Nat} {h : Nat → Nat} {n : Nat} (hP : Packs64 bs h n) : Begins64 (rbits bs) h n := by
  obtain ⟨h1, h2⟩ := hP
  exact ⟨h1, _, by rw [← h2, rbits_packed]⟩

/-- What Unpack tells, and where the values lie: in a block of their own. -/
def UnpackEnd64 (w : World) (bs : List Nat) (n : Nat) (e : Ending) (w' : World) : Prop :=
  (e = .returned (.tuple #[.slice none 0 0, .int .i64 71]) ∧ Below w.heap.size w w' ∧ ¬ ∃ h, Packs64 bs h n) ∨
    ∃ (g : Nat) (f : Nat → Nat), e = .returned (.tuple #[.slice (some ⟨g, 0, none⟩) n n, .int .i64 0]) ∧ w.heap.size ≤ g ∧ UW64 w' g n n f ∧ Below w.heap.size w w' ∧ Packs64 bs f n ∧
      ∀ h, Begins64 (rbits bs) h n → ∀ i, i < n → f i = h i

theorem ended64 {s : ByteArray} {bs : List Nat} {n a : Nat} {e1 : Int} {f h : Nat → Nat} (hb : ∀ n ∈ bs, n < 256) (hs : s = strOf bs) (hle : a ≤ 8 * s.size) (sound : e1 = 0 → (rb s).take a = cbn 64 6 f n) (full : ∀ h, Begins64 (rb s) h n → e1 = 0 ∧ ∀ i, i < n → f i = h i) (hP : Packs64 bs h n) : endE s a e1 = 0 := by
  subst hs
  obtain ⟨h1, h2⟩ := full h (by rw [rb_strOf bs hb]; exact begins_of64 hP)
  subst h1
  have h3 := sound rfl
  rw [cbn_congr _ _ _ _ _ h2] at h3
  have h4 := congrArg List.length h3
  rw [List.length_take, rb_length, Nat.min_eq_left hle] at h4
  obtain ⟨_, hbs⟩ := hP
  rw [← hbs, h4]
  exact end_packed _

theorem packs64 {s : ByteArray} {bs : List Nat} {n a : Nat} {e1 : Int} {f : Nat → Nat} (hb : ∀ n ∈ bs, n < 256) (hs : s = strOf bs) (hle : a ≤ 8 * s.size) (rng : ∀ i, i < n → f i < 18446744073709551616) (sound : e1 = 0 → (rb s).take a = cbn 64 6 f n) (hE : endE s a e1 = 0) : Packs64 bs f n := by
  subst hs
  refine ⟨rng, ?_⟩
  unfold endE at hE
  by_cases he : e1 = 0
  · rw [if_pos he] at hE
    have hs : (strOf bs).size = bs.length := by simp
    rw [hs, rb_strOf bs hb] at hE
    by_cases h8 : 8 ≤ 8 * bs.length - a
    · rw [if_pos h8] at hE; cases hE
    · rw [if_neg h8] at hE
      by_cases hz : num ((rbits bs).drop a) = 0
      · rw [hs] at hle
        have h1 := sound he
        rw [rb_strOf bs hb] at h1
        rw [← h1]
        exact packed_back bs hb a hle (by omega) hz
      · rw [if_neg hz] at hE; cases hE
  · rw [if_neg he] at hE; exact absurd hE he

set_option maxRecDepth 100000 in
set_option maxHeartbeats 1000000 in
theorem unpack64_any (v : Value) (bs : List Nat) (n : Nat) (w : World) (h : IsBy w v bs) (hb : ∀ n ∈ bs, n < 256) (hl : bs.length ≤ 1000000000000) (hn : n ≤ 4096) (hT : Tab64 w) :
    Calls Tryz.prog 120 #[v, .int .i64 n] w (UnpackEnd64 w bs n) := by
  have H := hide h
  have HB := hide hb
  have HL := hide hl
  have HT := hide hT
  have hTs : 2 < w.heap.size := block_lt_of_cell (hT 0 (by omega))
  clear h hb hl hT
  go_enter Tryz.func120, Tryz.ntmps120
  go_wp2_with fail
  refine (from_by w v bs H.out).mono ?_
  rintro e w1 ⟨rfl, hw1⟩
  have HR : Hid (Rd w1 w.heap.size 0 (strOf bs) 0 0) := by rw [hw1]; exact rd_new w bs HL.out
  have HB1 : Hid (Below w.heap.size w w1) := by rw [hw1]; exact (Below.refl _ _).alloc (Nat.le_refl _) _
  clear hw1
  go_wp2_with fail
  refine (takeAll64_any w.heap.size (strOf bs) n w1 HR.out hn (HT.out.below HB1.out) (by omega)).mono ?_
  rintro e w2 (⟨rfl, B2, hno⟩ | ⟨a, e1, f, rfl, U2, R2, B2, rng, sound, full⟩)
  · have HB2 : Hid (Below w.heap.size w w2) := HB1.out.trans B2
    have HNO := hide hno
    clear hno B2
    go_wp2_with fail
    go_ret2
    refine .inl ⟨rfl, HB2.out, fun ⟨h, hP⟩ => HNO.out ⟨h, ?_⟩⟩
    rw [rb_strOf bs HB.out]; exact begins_of64 hP
  · have HB2 : Hid (Below w.heap.size w w2) := HB1.out.trans B2
    have hg1 : Hid (w.heap.size ≤ w1.heap.size) := HB1.out.size
    have HU := hide U2
    have HA := hide (And.intro rng (And.intro sound full))
    have hle := hide R2.le
    have HR2 := hide R2
    clear U2 B2 rng sound full R2
    go_wp2_with fail
    refine (rend_any w.heap.size 0 (strOf bs) a e1 w2 HR2.out).mono ?_
    rintro e w3 ⟨rfl, m, hw3⟩
    have HB3 : Hid (Below w.heap.size w w3) := by rw [hw3]; exact below_drewN HB2.out m
    have HU3 : Hid (UW64 w3 w1.heap.size n n f) := by rw [hw3]; exact ⟨HU.out.cell, HU.out.fz, HU.out.blk⟩
    clear hw3
    by_cases hE : endE (strOf bs) a e1 = 0
    · rw [hE]
      have HE := hide hE
      clear hE
      go_wp2_with fail
      go_ret2
      refine .inr ⟨w1.heap.size, f, rfl, hg1.out, HU3.out, HB3.out, packs64 HB.out rfl hle.out HA.out.1 HA.out.2.1 HE.out, fun h hB => (HA.out.2.2 h (by rw [rb_strOf bs HB.out]; exact hB)).2⟩
    · have hE' : (endE (strOf bs) a e1 != 0) = true := by simp [hE]
      have HE := hide hE
      clear hE
      go_wp2_with fail
      go_ret2
      exact .inl ⟨rfl, HB3.out, fun ⟨h, hP⟩ => HE.out (ended64 HB.out rfl hle.out HA.out.2.1 HA.out.2.2 hP)⟩

theorem unpack64_count (v : Value) (n : Int) (w : World) (hn : n < 0 ∨ 4096 < n) :
    Calls Tryz.prog 120 #[v, .int .i64 n] w fun e w' => e = .returned (.tuple #[.slice none 0 0, .int .i64 70]) ∧ w' = w := by
  by_cases h0 : n < 0
  · go_enter Tryz.func120, Tryz.ntmps120
    go_wp2_with fail
    go_ret2
    exact ⟨rfl, rfl⟩
  · have h1 : 4096 < n := by omega
    go_enter Tryz.func120, Tryz.ntmps120
    go_wp2_with fail
    go_ret2
    exact ⟨rfl, rfl⟩

end Go.Proofs.YtpdaklklhoenhaaGreatDoor

/- A row of values that is appended to (64 bits). -/
namespace Go.Proofs.YtpdaklklhoenhaaGreatDoor
open Go.RowKit
open M
set_option linter.unusedVariables false

theorem info64 : ∃ i5, Tryz.prog.info? 41 = some i5 ∧ i5.zero = some (.int .u64 0) ∧ i5.size = 1 ∧ i5.bytes = 64 / 8 := by
  have hz : (Tryz.prog.info? 41).bind (·.zero) = some (.int .u64 0) := by kernel_rfl
  have hs : (Tryz.prog.info? 41).map (·.size) = some 1 := by kernel_rfl
  have hb : (Tryz.prog.info? 41).map (·.bytes) = some (64 / 8) := by kernel_rfl
  cases hi : Tryz.prog.info? 41 with
  | none => simp [hi] at hs
  | some i5 =>
    simp only [hi, Option.bind_some, Option.map_some, Option.some.injEq] at hz hs hb
    exact ⟨i5, rfl, hz, hs, hb⟩

/-- Values as cells. -/
def valsV64 (i : Nat) (f : Nat → Nat) : List Value := (List.range i).map fun j => .int .u64 (f j : Int)

theorem valsV64_succ (i : Nat) (f : Nat → Nat) : valsV64 (i + 1) f = valsV64 i f ++ [.int .u64 (f i : Int)] := by simp [valsV64, List.range_succ]

theorem grown_below64 {w w' : World} {row : Option Nat} {B : Nat} (hg : w.grownBy w' row) (hr : ∀ g, row = some g → B ≤ g) (hB : B ≤ w.heap.size) : Below B w w' :=
  ⟨hg.os, hg.tape, hg.output, hg.size, fun k hk => hg.block k (by omega) (fun e => by have := hr k e.symm; omega)⟩

/-- The slice v is a row of one's own, from block B on, of i values. -/
def USt64 (B : Nat) (w0 : World) (f : Nat → Nat) (i : Nat) (v : Value) (wr : World) : Prop := wr.ownsRow B 41 1 v i (valsV64 i f) ∧ Below B w0 wr ∧ B ≤ w0.heap.size

theorem USt64.nil (w : World) (f : Nat → Nat) : USt64 w.heap.size w f 0 (.slice none 0 0) w := ⟨⟨by simp [valsV64], .inl ⟨rfl, rfl⟩⟩, Below.refl _ _, Nat.le_refl _⟩

theorem USt64.next {B : Nat} {w0 wr w4 : World} {f : Nat → Nat} {i g cap : Nat} {v : Value} {t : Nat} (h : USt64 B w0 f i v wr) (ht : t = f i)
    (ho : w4.ownsRow B 41 1 (.slice (some ⟨g, 0, none⟩) (i + 1) cap) (i + 1) (valsV64 i f ++ [.int .u64 (t : Int)]))
    (hg : (wr.alloc (.cells #[.int .u64 (t : Int)] 41)).grownBy w4 v.ownBlock) : USt64 B w0 f (i + 1) (.slice (some ⟨g, 0, none⟩) (i + 1) cap) w4 := by
  subst ht
  have hs := h.2.1.size
  have h3 := h.2.2
  exact ⟨by rw [valsV64_succ]; exact ho, (h.2.1.alloc (Nat.le_trans h3 hs) _).trans (grown_below64 hg (fun g hg => (h.1.lt g hg).1) (by simp; omega)), h3⟩

theorem USt64.row {B : Nat} {w0 wr : World} {f : Nat → Nat} {i : Nat} {v : Value} (h : USt64 B w0 f i v wr) : ∃ ad cap, v = .slice ad i cap ∧ i ≤ cap ∧ URow64 wr ad i f := by
  rcases h.1.2 with ⟨h1, h2⟩ | ⟨g, cap2, cur, h1, hb, hg, hc2, hm2, hs, ht⟩
  · exact ⟨none, 0, by rw [h1, h2], by omega, by rw [h2]; exact URow64.nil _ _ _⟩
  · refine ⟨_, cap2, h1, hc2, fun _ => ⟨g, 0, rfl, fun j hj => ?_⟩⟩
    have e : (valsV64 i f)[j]? = some (.int .u64 (f j : Int)) := by simp [valsV64, hj]
    rw [Nat.zero_add, cell_of_row wr g j cur _ (0, 0) hg, ← e, ← ht, List.getElem?_take, if_pos (by omega)]
    simp

theorem USt64.congr {B : Nat} {w0 wr : World} {f f' : Nat → Nat} {i : Nat} {v : Value} (h : USt64 B w0 f i v wr) (e : ∀ j, j < i → f j = f' j) : USt64 B w0 f' i v wr := by
  have : valsV64 i f = valsV64 i f' := by
    unfold valsV64
    apply List.map_congr_left
    intro j hj
    rw [e j (List.mem_range.1 hj)]
  exact ⟨by rw [← this]; exact h.1, h.2⟩

end Go.Proofs.YtpdaklklhoenhaaGreatDoor

namespace Go.Proofs.YtpdaklklhoenhaaGreatDoor
open Go.RowKit
open M
set_option linter.unusedVariables false
set_option linter.unusedSimpArgs false

theorem drop_of_take {R l r : List Bool} {a a' : Nat} (h : R.take a' = R.take a ++ l) (hr : R.drop a = l ++ r) : R.drop a' = r := by
  have h1 := List.take_append_drop a' R
  have h2 := List.take_append_drop a R
  rw [h] at h1
  rw [hr, ← List.append_assoc] at h2
  exact List.append_cancel_left (h1.trans h2.symm)

/-- A reading: its state behind it; what stood there it took. -/
structure Hk {α : Type} (lay : α → List Bool) (ok : α → Prop) (w w' : World) (b off : Nat) (s : ByteArray) (a : Nat) (e0 : Int) (x : α) (a' : Nat) (e1 : Int) : Prop where
  rd : Rd w' b off s a' e1
  only : Only b off (off + 3) w w'
  hit : e0 = 0 → ∀ y r, ok y → (rb s).drop a = lay y ++ r → x = y ∧ e1 = 0 ∧ (rb s).take a' = (rb s).take a ++ lay y

theorem Hk.drop {α : Type} {lay : α → List Bool} {ok : α → Prop} {w w' : World} {b off : Nat} {s : ByteArray} {a : Nat} {e0 : Int} {x : α} {a' : Nat} {e1 : Int} (h : Hk lay ok w w' b off s a e0 x a' e1) (he : e0 = 0) (y : α) (r : List Bool) (hy : ok y) (hr : (rb s).drop a = lay y ++ r) :
    x = y ∧ e1 = 0 ∧ (rb s).drop a' = r := by
  obtain ⟨h1, h2, h3⟩ := h.hit he y r hy hr
  exact ⟨h1, h2, drop_of_take h3 hr⟩

def BitsHit (n : Nat) (w : World) (b off : Nat) (s : ByteArray) (a : Nat) (e0 : Int) (e : Ending) (w' : World) : Prop :=
  ∃ (x a' : Nat) (e1 : Int), e = .returned (.int .u64 (x : Int)) ∧ x < 2 ^ n ∧ Hk (fun y => bitsOf y n) (fun y => y < 2 ^ n) w w' b off s a e0 x a' e1

theorem hk_of_tk {w w' : World} {b off n : Nat} {s : ByteArray} {a a' : Nat} {e0 e1 : Int} {x : Nat} (ha : a ≤ 8 * s.size) (hx : x < 2 ^ n) (T : Tk w w' b off s a e0 a' e1 (bitsOf x n)) : Hk (fun y => bitsOf y n) (fun y => y < 2 ^ n) w w' b off s a e0 x a' e1 := by
  refine ⟨T.rd, T.only, fun he y r hy hr => ?_⟩
  have hr' : (rb s).drop a = bitsOf y n ++ r := hr
  have hl : ((rb s).drop a).length = n + r.length := by rw [hr']; simp
  rw [List.length_drop] at hl
  have e2 : e1 = 0 := T.full he (by rw [bitsOf_length]; rw [rb_length] at hl ⊢; omega)
  have h1 := (T.sound e2).2
  have h2 := take_eq_drop' _ _ a a' h1
  rw [hr'] at h2
  have h3 := (pbits_inj y x n _ _ hy hx h2).1
  exact ⟨h3.symm, e2, by rw [h1, h3]⟩

theorem hk_bits (b off : Nat) (s : ByteArray) (a n : Nat) (e0 : Int) (w : World) (h : Rd w b off s a e0) (hn : n ≤ 64) :
    Calls Tryz.prog 81 #[.pointer (some ⟨b, off, none⟩), .int .i64 n] w (BitsHit n w b off s a e0) :=
  (tk_bits b off s a n e0 w h hn).mono fun e w' ⟨x, a', e1, h1, h2, T⟩ => ⟨x, a', e1, h1, h2, hk_of_tk h.le h2 T⟩

def VarHit (w : World) (b off : Nat) (s : ByteArray) (a : Nat) (e0 : Int) (e : Ending) (w' : World) : Prop :=
  ∃ (x a' : Nat) (e1 : Int), e = .returned (.int .u64 (x : Int)) ∧ x < 18446744073709551616 ∧ Hk varB (fun y => y < 18446744073709551616) w w' b off s a e0 x a' e1

theorem hk_var (b off : Nat) (s : ByteArray) (a : Nat) (e0 : Int) (w : World) (h : Rd w b off s a e0) :
    Calls Tryz.prog 139 #[.pointer (some ⟨b, off, none⟩)] w (VarHit w b off s a e0) := by
  by_cases he : e0 = 0
  · subst he
    rcases var_cases s a with ⟨x, en, hr, hx, hen, ht⟩ | ⟨c, hc, hr⟩
    · refine (rvar_ok b off s a x en w h hr (hen h.le)).mono fun e w' ⟨h1, h2, h3⟩ => ?_
      refine ⟨x, en, 0, h1, hx, h2, h3, fun _ y r hy hd => ?_⟩
      rw [hd, varB_read y a r hy] at hr
      simp only [Prod.mk.injEq] at hr
      exact ⟨hr.1.symm, rfl, by rw [ht, ← hr.1]⟩
    · refine (rvar_err b off s a c w h hr hc).mono fun e w' ⟨h1, h2, h3⟩ => ?_
      refine ⟨0, a, c, h1, by omega, h2, h3, fun _ y r hy hd => ?_⟩
      rw [hd, varB_read y a r hy] at hr
      simp only [Prod.mk.injEq] at hr
      omega
  · refine (rvar_bad b off s a e0 w h (by rw [beq_eq_false_iff_ne]; exact he)).mono fun e w' ⟨h1, h2, h3⟩ => ?_
    exact ⟨0, a, e0, h1, by omega, h2, h3, fun h => absurd h he⟩

def ZigHit (w : World) (b off : Nat) (s : ByteArray) (a : Nat) (e0 : Int) (e : Ending) (w' : World) : Prop :=
  ∃ (x : Int) (a' : Nat) (e1 : Int), e = .returned (.int .i64 x) ∧ (-9223372036854775808 ≤ x ∧ x ≤ 9223372036854775807) ∧ Hk (fun y => varB (zig y)) (fun y => -9223372036854775808 ≤ y ∧ y ≤ 9223372036854775807) w w' b off s a e0 x a' e1

theorem hk_zig (b off : Nat) (s : ByteArray) (a : Nat) (e0 : Int) (w : World) (h : Rd w b off s a e0) :
    Calls Tryz.prog 143 #[.pointer (some ⟨b, off, none⟩)] w (ZigHit w b off s a e0) := by
  by_cases he : e0 = 0
  · subst he
    rcases var_cases s a with ⟨x, en, hr, hx, hen, ht⟩ | ⟨c, hc, hr⟩
    · refine (rzig_of b off w x hx _ (rvar_ok b off s a x en w h hr (hen h.le))).mono fun e w' ⟨h1, h2, h3⟩ => ?_
      refine ⟨zag x, en, 0, h1, zag_range x hx, h2, h3, fun _ y r hy hd => ?_⟩
      rw [hd, varB_read (zig y) a r (zig_lt y hy.1 hy.2)] at hr
      simp only [Prod.mk.injEq] at hr
      exact ⟨by rw [← hr.1, zag_zig], rfl, by rw [ht, ← hr.1]⟩
    · refine (rzig_of b off w 0 (by omega) _ (rvar_err b off s a c w h hr hc)).mono fun e w' ⟨h1, h2, h3⟩ => ?_
      refine ⟨zag 0, a, c, h1, zag_range 0 (by omega), h2, h3, fun _ y r hy hd => ?_⟩
      rw [hd, varB_read (zig y) a r (zig_lt y hy.1 hy.2)] at hr
      simp only [Prod.mk.injEq] at hr
      omega
  · refine (rzig_of b off w 0 (by omega) _ (rvar_bad b off s a e0 w h (by rw [beq_eq_false_iff_ne]; exact he))).mono fun e w' ⟨h1, h2, h3⟩ => ?_
    exact ⟨zag 0, a, e0, h1, zag_range 0 (by omega), h2, h3, fun h => absurd h he⟩

end Go.Proofs.YtpdaklklhoenhaaGreatDoor

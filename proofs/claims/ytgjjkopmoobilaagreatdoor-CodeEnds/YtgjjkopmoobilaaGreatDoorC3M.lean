/- The bits of a column by Decimal, over whatever arithmetic. Plain mathematics. -/
import Derived.Test.YtgjjkopmoobilaaGreatDoorB1T
import Derived.Deep.AppendLies
import Derived.Deep.CutRange
import Derived.OwnWalk
import Derived.Test.YtgjjkopmoobilaaGreatDoorB1Q
/- The contract of Unpack (64 bits). -/
namespace Go.Proofs.YtgjjkopmoobilaaGreatDoor
open Go.RowKit
open M
set_option linter.unusedVariables false
set_option linter.unusedSimpArgs false

set_option maxRecDepth 100000 in
set_option maxHeartbeats 2000000 in
theorem takeAll64_any (b : Nat) (s : ByteArray) (n : Nat) (w : World) (h : Rd w b 0 s 0 0) (hn : n ≤ 4096) (hT : Tab64 w) (hTb : 1 ≠ b) :
    Calls Tryz.prog 65 #[.pointer (some ⟨b, 0, none⟩), .int .i64 n] w (TakeAllEnd64 w b s n) := by
  have hbs : b < w.heap.size := block_lt_of_cell h.text
  have hTs : 1 < w.heap.size := block_lt_of_cell (hT 0 (by omega))
  have H := hide h
  have HT := hide hT
  clear h hT
  have hmk := make_vals64 n hn
  have hA : Hid (Below w.heap.size w (w.alloc (.cells (Array.replicate n (Value.int .u64 0)) 39))) := (Below.refl _ w).alloc (Nat.le_refl _) _
  by_cases h0 : n = 0
  · have hne : ((n : Int) == 0) = true := by rw [beq_iff_eq]; omega
    have H0 := hide h0
    clear h0
    go_enter Tryz.func65, Tryz.ntmps65
    go_wp2_with fail
    go_ret2
    refine .inr ⟨0, 0, fun _ => 0, rfl, ?_, H.out.below hA.out hbs, hA.out.mono (Nat.le_of_lt hbs), fun i hi => by have := H0.out; omega, fun _ => by rw [H0.out]; simp [cbn], fun h hB => ⟨rfl, fun i hi => by have := H0.out; omega⟩⟩
    rw [H0.out]; exact UW64.new w 0 _
  have hne : ((n : Int) == 0) = false := by rw [beq_eq_false_iff_ne]; omega
  have hn0 : 0 < n := by omega
  have HN : Hid (UW64 (w.alloc (.cells (Array.replicate n (Value.int .u64 0)) 39)) w.heap.size n 0 (fun _ => 0)) := UW64.new w n _
  have HR : Hid (Rd (w.alloc (.cells (Array.replicate n (Value.int .u64 0)) 39)) b 0 s 0 0) := H.out.below hA.out hbs
  have hs1 : Hid (w.heap.size < (w.alloc (.cells (Array.replicate n (Value.int .u64 0)) 39)).heap.size) := by show _ < _; simp
  have hgb : w.heap.size ≠ b := by omega
  go_enter Tryz.func65, Tryz.ntmps65
  go_upto_region 4 with fail
  generalize w.alloc (.cells (Array.replicate n (Value.int .u64 0)) 39) = W0 at *
  clear hmk
  go_wp2_with fail
  refine (width64_any _).mono ?_
  rintro e wy ⟨rfl, hwy⟩
  have hwy := hwy.symm
  subst hwy
  go_wp2_with fail
  refine (tk_bits b 0 s 0 64 0 W0 HR.out (by omega)).mono ?_
  rintro e w1 ⟨x, a, e1, rfl, hx, T⟩
  have hxM : x < 18446744073709551616 := hx
  have x1 : IntKind.u64.wrap (x : Int) = (x : Int) := wrap_nat64 hxM
  have HX := hide hxM
  clear hx hxM
  have e1b := T.only.block w.heap.size hs1.out hgb
  have R1 : UW64 w1 w.heap.size n 0 (fun _ => 0) := HN.out.ofBlock e1b
  have c1 : w1.cell? ⟨w.heap.size, 0, none⟩ = some (.int .u64 0) := R1.cell 0 (by omega)
  have c2 := R1.fz 0
  obtain ⟨g, hg⟩ : ∃ g, w.heap.size = g := ⟨_, rfl⟩
  have HT1 : Hid (UW64 (w1.setCell ⟨w.heap.size, 0, none⟩ (.int .u64 (x : Int))) w.heap.size n 1 (fun _ => x) ∧ Rd (w1.setCell ⟨w.heap.size, 0, none⟩ (.int .u64 (x : Int))) b 0 s a e1 ∧ Only b 0 3 w (w1.setCell ⟨w.heap.size, 0, none⟩ (.int .u64 (x : Int))) ∧ w.heap.size < (w1.setCell ⟨w.heap.size, 0, none⟩ (.int .u64 (x : Int))).heap.size) := by
    have O1 : Only b 0 3 w w1 := Only.trans ⟨hA.out.os, hA.out.tape, hA.out.output, hA.out.size, fun k hk _ => hA.out.block k hk, fun j _ => World.cell?_of_block (hA.out.block b hbs), fun j => World.frozen?_of_block (w := w) (w' := W0) (a := ⟨b, j, none⟩) (hA.out.block b hbs)⟩ T.only
    refine ⟨(R1.set (by omega) x).congr fun i hi => by rw [if_pos (by omega)], T.rd.setOther' _ 0 hgb _, O1.setOther' _ 0 (Nat.le_refl _) hgb _, ?_⟩
    have := T.only.size
    have := hs1.out
    simp [World.setCell]; omega
  have HTS := hide (And.intro T.sound T.full)
  have c3 := cell_setCell_eq w1 w.heap.size 0 (.int .u64 (x : Int)) _ c1
  clear R1 T e1b
  rw [hg] at c1 c2 c3 HT1 hgb ⊢
  go_upto_region 5 with fail
  generalize w1.setCell ⟨g, 0, none⟩ (.int .u64 (x : Int)) = W1 at *
  clear c1 c2
  have hN2 := heap_alloc_new W1 (.cells #[.int .u64 (x : Int), .int .i64 0, .int .i64 0] 152)
  have B2 : Below W1.heap.size W1 (W1.alloc (.cells #[.int .u64 (x : Int), .int .i64 0, .int .i64 0] 152)) := (Below.refl _ _).alloc (Nat.le_refl _) _
  have HCN : Hid (Cn64 w (W1.alloc (.cells #[.int .u64 (x : Int), .int .i64 0, .int .i64 0] 152)) b W1.heap.size s g n 0 a e1 (fun _ => x) ∧ g < W1.heap.size ∧ Tab64 (W1.alloc (.cells #[.int .u64 (x : Int), .int .i64 0, .int .i64 0] 152))) := by
    have hgs := HT1.out.2.2.2
    have tw : Two64 b W1.heap.size w (W1.alloc (.cells #[.int .u64 (x : Int), .int .i64 0, .int .i64 0] 152)) := (Two64.ofB HT1.out.2.2.1).trans (Two64.ofBelow B2)
    have hbW : b < W1.heap.size := by omega
    refine ⟨⟨HT1.out.1.ofBlock (B2.block g (by omega)), HT1.out.2.1.below B2 hbW, ⟨?_, ?_, ?_, fun i => frozen_of_row _ _ _ _ _ hN2⟩, tw, ?_, fun i hi => HX.out, fun he => ?_, ?_⟩, by omega, tw.tab HT.out hTb (by omega)⟩
    · rw [cell_of_row _ _ _ _ _ _ hN2]; rfl
    · rw [cell_of_row _ _ _ _ _ _ hN2]; rfl
    · rw [cell_of_row _ _ _ _ _ _ hN2]; rfl
    · have := B2.size; omega
    · rw [cbn_one, (HTS.out.1 he).2]; simp
    · rintro h ⟨hr, r, hR⟩
      obtain ⟨r1, h1⟩ := cbn_prefix 64 6 h 1 n (by omega)
      rw [h1, cbn_one, List.append_assoc] at hR
      have he : e1 = 0 := HTS.out.2 (by trivial) (by rw [hR]; simp)
      refine ⟨he, fun i hi => ?_⟩
      obtain rfl : i = 0 := by omega
      have h2 := take_eq_drop' _ _ 0 a (by rw [(HTS.out.1 he).2])
      rw [List.drop_zero, hR] at h2
      exact ((pbits_inj _ _ 64 _ _ (hr 0 (by omega)) HX.out h2).1).symm
  go_wp2_with fail
  obtain ⟨c, hcw⟩ : ∃ c, W1.heap.size = c := ⟨_, rfl⟩
  rw [hcw] at HCN ⊢
  clear hN2 B2 c3 hcw
  generalize W1.alloc (.cells #[.int .u64 (x : Int), .int .i64 0, .int .i64 0] 152) = W2 at *
  have hgc : g < c := HCN.out.2.1
  have hbc : c ≠ b := by omega
  go_loopw [4, 7] (fun t4 t7 wr => ∃ (k a : Nat) (e1 : Int) (f : Nat → Nat), t4 = .slice (some ⟨g, 0, none⟩) n n ∧ t7 = .int .i64 ((k : Int) + 1) ∧ Hid (k < n) ∧ Hid (Cn64 w wr b c s g n k a e1 f ∧ Tab64 wr)) (fun _ t7 _ => n - (intOf t7).toNat)
  case atStart => exact ⟨0, a, e1, _, rfl, rfl, hn0, HCN.out.1, HCN.out.2.2⟩
  case round =>
    clear HT1 HX HCN HTS
    obtain ⟨k, a, e1, f, rfl, rfl, hk, hI⟩ := hrel
    by_cases hlt : k + 1 < n
    · go_wp2_with fail
      refine (take64_any b c s a e1 (f k) (win 64 6 f k).1 (win 64 6 f k).2 wr hI.out.1.rd hI.out.1.col hbc (win_win 64 6 f (by omega) k (fun j hj => hI.out.1.rng j (by omega))) (hI.out.1.rng k (by omega)) hI.out.2 hTb (by omega)).mono ?_
      rintro e w2 ⟨ok, x, a2, e2, rfl, R2, T2, hx, hok, hfull⟩
      have HU := hide hx
      have HS := hide hok
      have HF := hide hfull
      have HR2 := hide R2
      have HT2 := hide T2
      clear hx hok hfull R2 T2
      cases ok with
      | false =>
        go_wp2_with fail
        go_ret2
        refine .inl ⟨rfl, (hI.out.1.two.trans HT2.out).below (Nat.le_refl _) (by omega) (by omega), hI.out.1.none hlt fun h1 y r hy hr => ?_⟩
        have := (HF.out h1 y r hy hr).1
        cases this
      | true =>
        have NX := Cn64.next hlt (Nat.le_of_eq hg) hgb (by omega) hI.out.1 x HU.out HR2.out HT2.out (HS.out rfl).1 (HS.out rfl).2 (fun h y r hy hr => ⟨(HF.out h y r hy hr).2.1, (HF.out h y r hy hr).2.2⟩)
        obtain ⟨q, hq⟩ : ∃ q : Nat, f k ^^^ x = q := ⟨_, rfl⟩
        have cq : w2.cell? ⟨c, 0, none⟩ = some (.int .u64 (q : Int)) := by rw [← hq]; exact (HS.out rfl).1.ahead
        have RW := hI.out.1.row.ofBlock (HT2.out.block g hI.out.1.size hgb (by omega))
        have c2 : w2.cell? ⟨g, k + 1, none⟩ = some (.int .u64 0) := by rw [RW.cell (k + 1) hlt, if_neg (by omega)]; rfl
        have c3 := RW.fz (k + 1)
        rw [hq] at NX
        have HNX := hide NX
        have HTb2 : Hid (Tab64 w2) := HT2.out.tab hI.out.2 hTb (by omega)
        clear NX hq RW
        go_wp2_with fail
        go_roundw
        case rel =>
          refine ⟨k + 1, a2, e2, _, rfl, by simp, hlt, HNX.out, ?_⟩
          exact fun j hj => by
            rw [World.cell?_of_block (w := w2) (Below.heap_setCell _ _ _ _ (show 1 ≠ g by omega))]; exact HTb2.out j hj
        case measure => simp [intOf]; omega
    · go_wp2_with fail
      go_ret2
      obtain rfl : n = k + 1 := by have := hk.out; omega
      refine .inr ⟨a, e1, f, by rw [hg]; rfl, by rw [hg]; exact hI.out.1.row, hI.out.1.rd, hI.out.1.two.below (Nat.le_refl _) (by omega) (by omega), hI.out.1.rng, hI.out.1.sound, hI.out.1.full⟩

end Go.Proofs.YtgjjkopmoobilaaGreatDoor

namespace Go.Proofs.YtgjjkopmoobilaaGreatDoor
open Go.RowKit
open M
set_option linter.unusedVariables false
set_option linter.unusedSimpArgs false

/-- The bytes are those of n values h. -/
def Packs64 (bs : List Nat) (h : Nat → Nat) (n : Nat) : Prop := (∀ i, i < n → h i < 18446744073709551616) ∧ packed (cbn 64 6 h n) = bs

theorem begins_of64 {bs : List Nat} {h : Nat → Nat} {n : Nat} (hP : Packs64 bs h n) : Begins64 (rbits bs) h n := by
  obtain ⟨h1, h2⟩ := hP
  exact ⟨h1, _, by rw [← h2, rbits_packed]⟩

/-- What Unpack tells, and where the values lie: in a block of their own. -/
def UnpackEnd64 (w : World) (bs : List Nat) (n : Nat) (e : Ending) (w' : World) : Prop :=
  (e = .returned (.tuple #[.slice none 0 0, .int .i64 71]) ∧ Below w.heap.size w w' ∧ ¬ ∃ h, Packs64 bs h n) ∨
    ∃ (g : Nat) (f : Nat → Nat), e = .returned (.tuple #[.slice (some ⟨g, 0, none⟩) n n, .int .i64 0]) ∧ w.heap.size ≤ g ∧ UW64 w' g n n f ∧ Below w.heap.size w w' ∧ Packs64 bs f n ∧
      ∀ h, Begins64 (rbits bs) h n → ∀ i, i < n → f i = h i

theorem ended64 {s : ByteArray} {bs : List Nat} {n a : Nat} {e1 : Int} {f h : Nat → Nat} (hb : ∀ n ∈ bs, n < 256) (hs : s = strOf bs) (hle : a ≤ 8 * s.size) (sound : e1 = 0 → (rb s).take a = cbn 64 6 f n) (full : ∀ h, Begins64 (rb s) h n → e1 = 0 ∧ ∀ i, i < n → f i = h i) (hP : Packs64 bs h n) : endE s a e1 = 0 := by
  subst hs
  obtain ⟨h1, h2⟩ := full h (by rw [rb_strOf bs hb]; exact begins_of64 hP)
  subst h1
  have h3 := sound rfl
  rw [cbn_congr _ _ _ _ _ h2] at h3
  have h4 := congrArg List.length h3
  rw [List.length_take, rb_length, Nat.min_eq_left hle] at h4
  obtain ⟨_, hbs⟩ := hP
  rw [← hbs, h4]
  exact end_packed _

theorem packs64 {s : ByteArray} {bs : List Nat} {n a : Nat} {e1 : Int} {f : Nat → Nat} (hb : ∀ n ∈ bs, n < 256) (hs : s = strOf bs) (hle : a ≤ 8 * s.size) (rng : ∀ i, i < n → f i < 18446744073709551616) (sound : e1 = 0 → (rb s).take a = cbn 64 6 f n) (hE : endE s a e1 = 0) : Packs64 bs f n := by
  subst hs
  refine ⟨rng, ?_⟩
  unfold endE at hE
  by_cases he : e1 = 0
  · rw [if_pos he] at hE
    have hs : (strOf bs).size = bs.length := by simp
    rw [hs, rb_strOf bs hb] at hE
    by_cases h8 : 8 ≤ 8 * bs.length - a
    · rw [if_pos h8] at hE; cases hE
    · rw [if_neg h8] at hE
      by_cases hz : num ((rbits bs).drop a) = 0
      · rw [hs] at hle
        have h1 := sound he
        rw [rb_strOf bs hb] at h1
        rw [← h1]
        exact packed_back bs hb a hle (by omega) hz
      · rw [if_neg hz] at hE; cases hE
  · rw [if_neg he] at hE; exact absurd hE he

set_option maxRecDepth 100000 in
set_option maxHeartbeats 1000000 in
theorem unpack64_any (v : Value) (bs : List Nat) (n : Nat) (w : World) (h : IsBy w v bs) (hb : ∀ n ∈ bs, n < 256) (hl : bs.length ≤ 1000000000000) (hn : n ≤ 4096) (hT : Tab64 w) :
    Calls Tryz.prog 40 #[v, .int .i64 n] w (UnpackEnd64 w bs n) := by
  have H := hide h
  have HB := hide hb
  have HL := hide hl
  have HT := hide hT
  have hTs : 1 < w.heap.size := block_lt_of_cell (hT 0 (by omega))
  clear h hb hl hT
  go_enter Tryz.func40, Tryz.ntmps40
  go_wp2_with fail
  refine (from_by w v bs H.out).mono ?_
  rintro e w1 ⟨rfl, hw1⟩
  have HR : Hid (Rd w1 w.heap.size 0 (strOf bs) 0 0) := by rw [hw1]; exact rd_new w bs HL.out
  have HB1 : Hid (Below w.heap.size w w1) := by rw [hw1]; exact (Below.refl _ _).alloc (Nat.le_refl _) _
  clear hw1
  go_wp2_with fail
  refine (takeAll64_any w.heap.size (strOf bs) n w1 HR.out hn (HT.out.below HB1.out) (by omega)).mono ?_
  rintro e w2 (⟨rfl, B2, hno⟩ | ⟨a, e1, f, rfl, U2, R2, B2, rng, sound, full⟩)
  · have HB2 : Hid (Below w.heap.size w w2) := HB1.out.trans B2
    have HNO := hide hno
    clear hno B2
    go_wp2_with fail
    go_ret2
    refine .inl ⟨rfl, HB2.out, fun ⟨h, hP⟩ => HNO.out ⟨h, ?_⟩⟩
    rw [rb_strOf bs HB.out]; exact begins_of64 hP
  · have HB2 : Hid (Below w.heap.size w w2) := HB1.out.trans B2
    have hg1 : Hid (w.heap.size ≤ w1.heap.size) := HB1.out.size
    have HU := hide U2
    have HA := hide (And.intro rng (And.intro sound full))
    have hle := hide R2.le
    have HR2 := hide R2
    clear U2 B2 rng sound full R2
    go_wp2_with fail
    refine (rend_any w.heap.size 0 (strOf bs) a e1 w2 HR2.out).mono ?_
    rintro e w3 ⟨rfl, m, hw3⟩
    have HB3 : Hid (Below w.heap.size w w3) := by rw [hw3]; exact below_drewN HB2.out m
    have HU3 : Hid (UW64 w3 w1.heap.size n n f) := by rw [hw3]; exact ⟨HU.out.cell, HU.out.fz, HU.out.blk⟩
    clear hw3
    by_cases hE : endE (strOf bs) a e1 = 0
    · rw [hE]
      have HE := hide hE
      clear hE
      go_wp2_with fail
      go_ret2
      refine .inr ⟨w1.heap.size, f, rfl, hg1.out, HU3.out, HB3.out, packs64 HB.out rfl hle.out HA.out.1 HA.out.2.1 HE.out, fun h hB => (HA.out.2.2 h (by rw [rb_strOf bs HB.out]; exact hB)).2⟩
    · have hE' : (endE (strOf bs) a e1 != 0) = true := by simp [hE]
      have HE := hide hE
      clear hE
      go_wp2_with fail
      go_ret2
      exact .inl ⟨rfl, HB3.out, fun ⟨h, hP⟩ => HE.out (ended64 HB.out rfl hle.out HA.out.2.1 HA.out.2.2 hP)⟩

theorem unpack64_count (v : Value) (n : Int) (w : World) (hn : n < 0 ∨ 4096 < n) :
    Calls Tryz.prog 40 #[v, .int .i64 n] w fun e w' => e = .returned (.tuple #[.slice none 0 0, .int .i64 70]) ∧ w' = w := by
  by_cases h0 : n < 0
  · go_enter Tryz.func40, Tryz.ntmps40
    go_wp2_with fail
    go_ret2
    exact ⟨rfl, rfl⟩
  · have h1 : 4096 < n := by omega
    go_enter Tryz.func40, Tryz.ntmps40
    go_wp2_with fail
    go_ret2
    exact ⟨rfl, rfl⟩

end Go.Proofs.YtgjjkopmoobilaaGreatDoor

/- A row of values that is appended to (64 bits). -/
namespace Go.Proofs.YtgjjkopmoobilaaGreatDoor
open Go.RowKit
open M
set_option linter.unusedVariables false

theorem info64 : ∃ i5, Tryz.prog.info? 39 = some i5 ∧ i5.zero = some (.int .u64 0) ∧ i5.size = 1 ∧ i5.bytes = 64 / 8 := by
  have hz : (Tryz.prog.info? 39).bind (·.zero) = some (.int .u64 0) := by kernel_rfl
  have hs : (Tryz.prog.info? 39).map (·.size) = some 1 := by kernel_rfl
  have hb : (Tryz.prog.info? 39).map (·.bytes) = some (64 / 8) := by kernel_rfl
  cases hi : Tryz.prog.info? 39 with
  | none => simp [hi] at hs
  | some i5 =>
    simp only [hi, Option.bind_some, Option.map_some, Option.some.injEq] at hz hs hb
    exact ⟨i5, rfl, hz, hs, hb⟩

/-- Values as cells. -/
def valsV64 (i : Nat) (f : Nat → Nat) : List Value := (List.range i).map fun j => .int .u64 (f j : Int)

theorem valsV64_succ (i : Nat) (f : Nat → Nat) : valsV64 (i + 1) f = valsV64 i f ++ [.int .u64 (f i : Int)] := by simp [valsV64, List.range_succ]

theorem grown_below64 {w w' : World} {row : Option Nat} {B : Nat} (hg : w.grownBy w' row) (hr : ∀ g, row = some g → B ≤ g) (hB : B ≤ w.heap.size) : Below B w w' :=
  ⟨hg.os, hg.tape, hg.output, hg.size, fun k hk => hg.block k (by omega) (fun e => by have := hr k e.symm; omega)⟩

/-- The slice v is a row of one's own, from block B on, of i values. -/
def USt64 (B : Nat) (w0 : World) (f : Nat → Nat) (i : Nat) (v : Value) (wr : World) : Prop := wr.ownsRow B 39 1 v i (valsV64 i f) ∧ Below B w0 wr ∧ B ≤ w0.heap.size

theorem USt64.nil (w : World) (f : Nat → Nat) : USt64 w.heap.size w f 0 (.slice none 0 0) w := ⟨⟨by simp [valsV64], .inl ⟨rfl, rfl⟩⟩, Below.refl _ _, Nat.le_refl _⟩

theorem USt64.next {B : Nat} {w0 wr w4 : World} {f : Nat → Nat} {i g cap : Nat} {v : Value} {t : Nat} (h : USt64 B w0 f i v wr) (ht : t = f i)
    (ho : w4.ownsRow B 39 1 (.slice (some ⟨g, 0, none⟩) (i + 1) cap) (i + 1) (valsV64 i f ++ [.int .u64 (t : Int)]))
    (hg : (wr.alloc (.cells #[.int .u64 (t : Int)] 39)).grownBy w4 v.ownBlock) : USt64 B w0 f (i + 1) (.slice (some ⟨g, 0, none⟩) (i + 1) cap) w4 := by
  subst ht
  have hs := h.2.1.size
  have h3 := h.2.2
  exact ⟨by rw [valsV64_succ]; exact ho, (h.2.1.alloc (Nat.le_trans h3 hs) _).trans (grown_below64 hg (fun g hg => (h.1.lt g hg).1) (by simp; omega)), h3⟩

theorem USt64.row {B : Nat} {w0 wr : World} {f : Nat → Nat} {i : Nat} {v : Value} (h : USt64 B w0 f i v wr) : ∃ ad cap, v = .slice ad i cap ∧ i ≤ cap ∧ URow64 wr ad i f := by
  rcases h.1.2 with ⟨h1, h2⟩ | ⟨g, cap2, cur, h1, hb, hg, hc2, hm2, hs, ht⟩
  · exact ⟨none, 0, by rw [h1, h2], by omega, by rw [h2]; exact URow64.nil _ _ _⟩
  · refine ⟨_, cap2, h1, hc2, fun _ => ⟨g, 0, rfl, fun j hj => ?_⟩⟩
    have e : (valsV64 i f)[j]? = some (.int .u64 (f j : Int)) := by simp [valsV64, hj]
    rw [Nat.zero_add, cell_of_row wr g j cur _ (0, 0) hg, ← e, ← ht, List.getElem?_take, if_pos (by omega)]
    simp

theorem USt64.congr {B : Nat} {w0 wr : World} {f f' : Nat → Nat} {i : Nat} {v : Value} (h : USt64 B w0 f i v wr) (e : ∀ j, j < i → f j = f' j) : USt64 B w0 f' i v wr := by
  have : valsV64 i f = valsV64 i f' := by
    unfold valsV64
    apply List.map_congr_left
    intro j hj
    rw [e j (List.mem_range.1 hj)]
  exact ⟨by rw [← this]; exact h.1, h.2⟩

end Go.Proofs.YtgjjkopmoobilaaGreatDoor

/- The law's own functions: num, same (of fathomlaw8). -/
namespace Go.Proofs.YtgjjkopmoobilaaGreatDoor
open Go.RowKit
open M
set_option linter.unusedVariables false

theorem num8_any (n : Int) (w : World) : Calls Tryz.prog 15 #[.int .i64 n] w fun e w' => e = .returned (.int .i64 n) ∧ w' = w := by
  go_enter Tryz.func15, Tryz.ntmps15
  go_wp2
  go_ret
  exact ⟨rfl, rfl⟩

/-- A Bool that says whether P. -/
def Says8 (P : Prop) (w : World) (e : Ending) (w' : World) : Prop := ∃ v : Bool, e = .returned (.bool v) ∧ (v = true ↔ P) ∧ ∃ m, w' = w.drewN m

set_option maxHeartbeats 1000000 in
theorem same8_any (p q : Option Addr) (n n' cap cap' : Nat) (f g : Nat → Nat) (w : World) (h : URow64 w p n f) (h' : URow64 w q n' g) (hn : n ≤ 281474976710656) (hn' : n' ≤ 281474976710656) :
    Calls Tryz.prog 22 #[.slice p n cap, .slice q n' cap'] w (Says8 (n = n' ∧ ∀ i, i < n → f i = g i) w) := by
  have H := hide h
  have H' := hide h'
  clear h h'
  by_cases hne : n = n'
  · subst hne
    go_enter Tryz.func22, Tryz.ntmps22
    go_wp2_with fail
    go_loopw [5] (fun i wr => ∃ k : Nat, Hid (∀ j, j < k → f j = g j) ∧ i = .int .i64 (k : Int) ∧ Hid (∃ m, wr = w.drewN m)) (fun i _ => n - (intOf i).toNat)
    case atStart => exact ⟨0, fun j hj => by omega, rfl, 0, rfl⟩
    case round =>
      obtain ⟨k, hr, rfl, hm⟩ := hrel
      by_cases hlt : k < n
      · obtain ⟨b, o, rfl, hc⟩ := H.out (by omega)
        obtain ⟨b', o', rfl, hc'⟩ := H'.out (by omega)
        obtain ⟨x, hx⟩ : ∃ x, f k = x := ⟨_, rfl⟩
        obtain ⟨y, hy⟩ : ∃ y, g k = y := ⟨_, rfl⟩
        have c1 : wr.cell? ⟨b, o + k, none⟩ = some (.int .u64 (x : Int)) := by obtain ⟨m, rfl⟩ := hm.out; rw [← hx]; exact hc k hlt
        have c2 : wr.cell? ⟨b', o' + k, none⟩ = some (.int .u64 (y : Int)) := by obtain ⟨m, rfl⟩ := hm.out; rw [← hy]; exact hc' k hlt
        have HXY := hide (And.intro hx hy)
        clear hc hc' hx hy
        by_cases hle : x = y
        · have hb : ((x : Int) != (y : Int)) = false := by simp [hle]
          go_wp2_with fail
          go_region
          go_wp2_with fail
          go_roundw
          case rel => exact ⟨k + 1, fun j hj => by
            by_cases e : j = k
            · subst e; rw [HXY.out.1, HXY.out.2]; exact hle
            · exact hr.out j (by omega), by simp, by obtain ⟨m, rfl⟩ := hm.out; exact ⟨m + 1, rfl⟩⟩
          case measure => simp [intOf]; omega
        · have hb : ((x : Int) != (y : Int)) = true := by simp; omega
          go_wp2_with fail
          go_region
          go_wp2_with fail
          go_ret
          obtain ⟨m, rfl⟩ := hm.out
          exact ⟨false, rfl, ⟨fun h => (by cases h), fun h => absurd (h.2 k hlt) (by rw [HXY.out.1, HXY.out.2]; exact hle)⟩, m + 1, rfl⟩
      · go_wp2_with fail
        go_ret
        exact ⟨true, rfl, ⟨fun _ => ⟨by trivial, fun j hj => hr.out j (by omega)⟩, fun _ => rfl⟩, hm.out⟩
  · have hb : ((n : Int) != (n' : Int)) = true := by simp; omega
    go_enter Tryz.func22, Tryz.ntmps22
    go_wp2_with fail
    go_ret
    exact ⟨false, rfl, ⟨fun h => (by cases h), fun h => absurd h.1 hne⟩, 0, rfl⟩

end Go.Proofs.YtgjjkopmoobilaaGreatDoor

/- The bits of a column's codings: Plain, Stride, Runs. Plain mathematics. -/
namespace Go.Proofs.YtgjjkopmoobilaaGreatDoor
open M
set_option linter.unusedVariables false

/-- n values of W bits each, as they are. -/
def plB (W : Nat) (f : Nat → Nat) : Nat → List Bool
  | 0 => []
  | n + 1 => plB W f n ++ bitsOf (f n) W

theorem plB_length (W : Nat) (f : Nat → Nat) (n : Nat) : (plB W f n).length = W * n := by
  induction n with
  | zero => rfl
  | succ n ih => rw [plB, List.length_append, ih, bitsOf_length, Nat.mul_succ]

theorem plB_congr (W : Nat) (f g : Nat → Nat) (n : Nat) (h : ∀ i, i < n → f i = g i) : plB W f n = plB W g n := by
  induction n with
  | zero => rfl
  | succ n ih => rw [plB, plB, ih fun i hi => h i (by omega), h n (by omega)]

/-- What is expected of value i, modulo M. -/
def exS (M : Nat) (f : Nat → Nat) : Nat → Nat
  | 0 => 0
  | 1 => f 0
  | i + 2 => (2 * f (i + 1) + M - f i) % M

/-- A number of W bits read as a signed one (H = 2^(W-1), M = 2^W). -/
def sgW (H M x : Nat) : Int := if x < H then (x : Int) else (x : Int) - M

/-- What is laid of value i. -/
def rsS (M : Nat) (f : Nat → Nat) (i : Nat) : Nat := (f i + M - exS M f i) % M

theorem exS_lt (M : Nat) (f : Nat → Nat) (hM : 0 < M) (i : Nat) (h : ∀ j, j < i → f j < M) : exS M f i < M := by
  match i with
  | 0 => exact hM
  | 1 => exact h 0 (by omega)
  | i + 2 => exact Nat.mod_lt _ hM

theorem rsS_lt (M : Nat) (f : Nat → Nat) (hM : 0 < M) (i : Nat) : rsS M f i < M := Nat.mod_lt _ hM

theorem rsS_back (M : Nat) (f : Nat → Nat) (hM : 0 < M) (i : Nat) (h : ∀ j, j ≤ i → f j < M) : (exS M f i + rsS M f i) % M = f i := by
  have he := exS_lt M f hM i fun j hj => h j (by omega)
  have hf := h i (by omega)
  unfold rsS
  by_cases hle : exS M f i ≤ f i
  · have e : f i + M - exS M f i = (f i - exS M f i) + M := by omega
    rw [e, Nat.add_mod_right, Nat.mod_eq_of_lt (show f i - exS M f i < M by omega), show exS M f i + (f i - exS M f i) = f i from by omega, Nat.mod_eq_of_lt hf]
  · rw [Nat.mod_eq_of_lt (show f i + M - exS M f i < M by omega), show exS M f i + (f i + M - exS M f i) = f i + M from by omega, Nat.add_mod_right, Nat.mod_eq_of_lt hf]

theorem sgW_range (H M x : Nat) (hM : M = 2 * H) (hx : x < M) : -(H : Int) ≤ sgW H M x ∧ sgW H M x < (H : Int) := by
  unfold sgW; split <;> omega

theorem sgW_mod (H M x : Nat) (hM : M = 2 * H) (hx : x < M) : sgW H M x % (M : Int) = (x : Int) := by
  unfold sgW
  split
  · exact Int.emod_eq_of_lt (by omega) (by omega)
  · rw [show ((x : Int) - M) = (x : Int) + M * (-1) from by omega, Int.add_mul_emod_self_left]
    exact Int.emod_eq_of_lt (by omega) (by omega)

/-- The bits of n values by Stride. -/
def stB (H M : Nat) (f : Nat → Nat) : Nat → List Bool
  | 0 => []
  | n + 1 => stB H M f n ++ varB (zig (sgW H M (rsS M f n)))

theorem exS_congr (M : Nat) (f g : Nat → Nat) (i : Nat) (h : ∀ j, j < i → f j = g j) : exS M f i = exS M g i := by
  match i with
  | 0 => rfl
  | 1 => exact h 0 (by omega)
  | i + 2 => rw [exS, exS, h i (by omega), h (i + 1) (by omega)]

theorem stB_congr (H M : Nat) (f g : Nat → Nat) (n : Nat) (h : ∀ i, i < n → f i = g i) : stB H M f n = stB H M g n := by
  induction n with
  | zero => rfl
  | succ n ih => rw [stB, stB, ih fun i hi => h i (by omega), rsS, rsS, h n (by omega), exS_congr M f g n fun j hj => h j (by omega)]

/-- How many values from i on, of those before n, are the value at i. -/
def aheadOf (f : Nat → Nat) (v : Nat) : Nat → Nat → Nat
  | _, 0 => 0
  | i, k + 1 => if f i = v then aheadOf f v (i + 1) k + 1 else 0

theorem aheadOf_le (f : Nat → Nat) (v i k : Nat) : aheadOf f v i k ≤ k := by
  induction k generalizing i with
  | zero => exact Nat.le_refl _
  | succ k ih => have := ih (i + 1); rw [aheadOf]; split <;> omega

theorem aheadOf_eq (f : Nat → Nat) (v i k : Nat) (j : Nat) (hj : j < aheadOf f v i k) : f (i + j) = v := by
  induction k generalizing i j with
  | zero => simp [aheadOf] at hj
  | succ k ih =>
    rw [aheadOf] at hj
    split at hj
    · rename_i h
      match j with
      | 0 => exact h
      | j + 1 => rw [show i + (j + 1) = i + 1 + j from by omega]; exact ih (i + 1) j (by omega)
    · omega

theorem aheadOf_pos (f : Nat → Nat) (i k : Nat) : 0 < aheadOf f (f i) i (k + 1) := by rw [aheadOf, if_pos rfl]; omega

/-- What ends a run: the first value that is another one. -/
theorem aheadOf_of (f : Nat → Nat) (v i k m : Nat) (hm : m ≤ k) (hs : ∀ j, j < m → f (i + j) = v) (he : m < k → f (i + m) ≠ v) : aheadOf f v i k = m := by
  induction k generalizing i m with
  | zero => simp [aheadOf]; omega
  | succ k ih =>
    rw [aheadOf]
    match m with
    | 0 => rw [if_neg]; exact fun h => he (by omega) h
    | m + 1 =>
      rw [if_pos (show f i = v from hs 0 (by omega)), ih (i + 1) m (by omega) (fun j hj => ?_) (fun hj => ?_)]
      · rw [show i + 1 + j = i + (j + 1) from by omega]; exact hs (j + 1) (by omega)
      · rw [show i + 1 + m = i + (m + 1) from by omega]; exact he (by omega)

/-- The bits by Runs of k values from i on (of at most u runs). -/
def rnB (W : Nat) (f : Nat → Nat) : Nat → Nat → Nat → List Bool
  | 0, _, _ => []
  | _, _, 0 => []
  | u + 1, i, k + 1 => bitsOf (f i) W ++ varB (aheadOf f (f i) i (k + 1) - 1) ++ rnB W f u (i + aheadOf f (f i) i (k + 1)) (k + 1 - aheadOf f (f i) i (k + 1))

/-- So many runs are enough. -/
theorem rnB_enough (W : Nat) (f : Nat → Nat) (u u' i k : Nat) (h : k ≤ u) (h' : k ≤ u') : rnB W f u i k = rnB W f u' i k := by
  induction u generalizing u' i k with
  | zero => obtain rfl : k = 0 := by omega
            cases u' <;> rfl
  | succ u ih =>
    match k, u' with
    | 0, 0 => rfl
    | 0, u' + 1 => rfl
    | k + 1, u' + 1 =>
      have hp := aheadOf_pos f i k
      rw [rnB, rnB, ih u' _ _ (by omega) (by omega)]

end Go.Proofs.YtgjjkopmoobilaaGreatDoor

namespace Go.Proofs.YtgjjkopmoobilaaGreatDoor
open M
set_option linter.unusedVariables false

/-- The arithmetic of a width: products, quotients, whole numbers as floats, the nearest whole number; how far p and k go. -/
structure Dm where
  mul : Nat → Nat → Nat
  div : Nat → Nat → Nat
  int : Int → Nat
  near : Nat → Option Int
  mostP : Nat
  most : Int

namespace Dm
variable (F : Dm)

def pow : Nat → Nat
  | 0 => F.int 1
  | p + 1 => F.mul (pow p) (F.int 10)

def val (p : Nat) (k : Int) : Nat := F.div (F.int k) (F.pow p)

/-- Which whole number a value is at a scale. -/
def wh (p v : Nat) : Option Int :=
  match F.near (F.mul v (F.pow p)) with
  | none => none
  | some k => if k < -F.most ∨ F.most < k ∨ F.val p k ≠ v then none else some k

theorem wh_val {p v : Nat} {k : Int} (h : F.wh p v = some k) : F.val p k = v ∧ -F.most ≤ k ∧ k ≤ F.most := by
  unfold wh at h
  split at h
  · cases h
  · split at h
    · cases h
    · rename_i hn
      simp only [Option.some.injEq] at h
      subst h
      simp only [not_or, Int.not_lt, Decidable.not_not] at hn
      exact ⟨hn.2.2, hn.1, hn.2.1⟩

/-- How many of m values from i on are nothing. -/
def cnt (p : Nat) (f : Nat → Nat) : Nat → Nat → Nat
  | _, 0 => 0
  | i, m + 1 => if (F.wh p (f i)).isSome then cnt p f (i + 1) m else cnt p f (i + 1) m + 1

theorem cnt_end (p : Nat) (f : Nat → Nat) (i m : Nat) : F.cnt p f i (m + 1) = F.cnt p f i m + (if (F.wh p (f (i + m))).isSome then 0 else 1) := by
  induction m generalizing i with
  | zero => simp only [cnt, Nat.add_zero, Nat.zero_add]
  | succ m ih =>
    rw [cnt, ih (i + 1), cnt, show i + 1 + m = i + (m + 1) from by omega]
    by_cases h : (F.wh p (f i)).isSome = true <;> simp only [h, if_true, if_false, Bool.false_eq_true] <;> omega

theorem cnt_le (p : Nat) (f : Nat → Nat) (i m : Nat) : F.cnt p f i m ≤ m := by
  induction m generalizing i with
  | zero => exact Nat.le_refl _
  | succ m ih => have := ih (i + 1); rw [cnt]; split <;> omega

theorem cnt_congr (p : Nat) (f g : Nat → Nat) (i m : Nat) (h : ∀ j, i ≤ j → j < i + m → f j = g j) : F.cnt p f i m = F.cnt p g i m := by
  induction m generalizing i with
  | zero => rfl
  | succ m ih => rw [cnt, cnt, h i (Nat.le_refl _) (by omega), ih (i + 1) fun j h1 h2 => h j (by omega) (by omega)]

/-- The best scale of the first q, and how many values are nothing at it. -/
def bs (f : Nat → Nat) (n : Nat) : Nat → Nat × Nat
  | 0 => (0, F.cnt 0 f 0 n)
  | q + 1 => if (bs f n q).2 = 0 then bs f n q else if F.cnt (q + 1) f 0 n < (bs f n q).2 then (q + 1, F.cnt (q + 1) f 0 n) else bs f n q

theorem bs_le (f : Nat → Nat) (n q : Nat) : (F.bs f n q).1 ≤ q := by
  induction q with
  | zero => exact Nat.le_refl _
  | succ q ih => rw [bs]; split
                 · omega
                 · split
                   · exact Nat.le_refl _
                   · omega

theorem bs_stop (f : Nat → Nat) (n q r : Nat) (h : q ≤ r) (h0 : (F.bs f n q).2 = 0) : F.bs f n r = F.bs f n q := by
  induction r with
  | zero => rw [show q = 0 from by omega]
  | succ r ih =>
    by_cases e : q = r + 1
    · rw [e]
    · have := ih (by omega)
      rw [bs, this, if_pos h0]

theorem bs_congr (f g : Nat → Nat) (n q : Nat) (h : ∀ j, j < n → f j = g j) : F.bs f n q = F.bs g n q := by
  have hc : ∀ p, F.cnt p f 0 n = F.cnt p g 0 n := fun p => F.cnt_congr p f g 0 n fun j _ h2 => h j (by omega)
  induction q with
  | zero => rw [bs, bs, hc]
  | succ q ih => rw [bs, bs, ih, hc]

theorem bs_cnt (f : Nat → Nat) (n q : Nat) : (F.bs f n q).2 = F.cnt (F.bs f n q).1 f 0 n := by
  induction q with
  | zero => rfl
  | succ q ih => rw [bs]; split
                 · exact ih
                 · split
                   · rfl
                   · exact ih

/-- The values that are nothing among m from i on, c whole ones ahead. -/
def nt (W p : Nat) (f : Nat → Nat) : Nat → Nat → Nat → List Bool
  | _, 0, _ => []
  | i, m + 1, c => if (F.wh p (f i)).isSome then nt W p f (i + 1) m (c + 1) else varB c ++ (bitsOf (f i) W ++ nt W p f (i + 1) m 0)

/-- All others among m from i on, behind the whole number a. -/
def wb (p : Nat) (f : Nat → Nat) : Nat → Nat → Int → List Bool
  | _, 0, _ => []
  | i, m + 1, a => match F.wh p (f i) with
    | some k => varB (zig (k - a)) ++ wb p f (i + 1) m k
    | none => wb p f (i + 1) m a

theorem nt_congr (W p : Nat) (f g : Nat → Nat) (i m c : Nat) (h : ∀ j, i ≤ j → j < i + m → f j = g j) : F.nt W p f i m c = F.nt W p g i m c := by
  induction m generalizing i c with
  | zero => rfl
  | succ m ih => rw [nt, nt, h i (Nat.le_refl _) (by omega), ih (i + 1) (c + 1) fun j h1 h2 => h j (by omega) (by omega), ih (i + 1) 0 fun j h1 h2 => h j (by omega) (by omega)]

theorem wb_congr (p : Nat) (f g : Nat → Nat) (i m : Nat) (a : Int) (h : ∀ j, i ≤ j → j < i + m → f j = g j) : F.wb p f i m a = F.wb p g i m a := by
  induction m generalizing i a with
  | zero => rfl
  | succ m ih =>
    rw [wb, wb, h i (Nat.le_refl _) (by omega)]
    split
    · rw [ih (i + 1) _ fun j h1 h2 => h j (by omega) (by omega)]
    · exact ih (i + 1) _ fun j h1 h2 => h j (by omega) (by omega)

theorem nt_none (W p : Nat) (f : Nat → Nat) (i m c : Nat) (h : F.cnt p f i m = 0) : F.nt W p f i m c = [] ∧ ∀ j, i ≤ j → j < i + m → (F.wh p (f j)).isSome = true := by
  induction m generalizing i c with
  | zero => exact ⟨rfl, fun j h1 h2 => by omega⟩
  | succ m ih =>
    rw [cnt] at h
    by_cases hs : (F.wh p (f i)).isSome = true
    · rw [if_pos hs] at h
      obtain ⟨h1, h2⟩ := ih (i + 1) (c + 1) h
      refine ⟨by rw [nt, if_pos hs, h1], fun j h3 h4 => ?_⟩
      by_cases e : j = i
      · rw [e]; exact hs
      · exact h2 j (by omega) (by omega)
    · rw [if_neg hs] at h; omega

/-- The next value that is nothing. -/
theorem nt_next (W p : Nat) (f : Nat → Nat) (i m c : Nat) (h : 0 < F.cnt p f i m) : ∃ j, j < m ∧ (F.wh p (f (i + j))).isSome = false ∧ (∀ t, t < j → (F.wh p (f (i + t))).isSome = true) ∧ F.cnt p f i m = F.cnt p f (i + j + 1) (m - (j + 1)) + 1 ∧
    F.nt W p f i m c = varB (c + j) ++ (bitsOf (f (i + j)) W ++ F.nt W p f (i + j + 1) (m - (j + 1)) 0) := by
  induction m generalizing i c with
  | zero => simp [cnt] at h
  | succ m ih =>
    rw [cnt] at h ⊢
    rw [nt]
    by_cases hs : (F.wh p (f i)).isSome = true
    · rw [if_pos hs] at h ⊢
      rw [if_pos hs]
      obtain ⟨j, h1, h2, h3, h4, h5⟩ := ih (i + 1) (c + 1) h
      refine ⟨j + 1, by omega, by rw [show i + (j + 1) = i + 1 + j from by omega]; exact h2, fun t ht => ?_, ?_, ?_⟩
      · match t with
        | 0 => exact hs
        | t + 1 => rw [show i + (t + 1) = i + 1 + t from by omega]; exact h3 t (by omega)
      · rw [h4, show i + (j + 1) + 1 = i + 1 + j + 1 from by omega, show m + 1 - (j + 1 + 1) = m - (j + 1) from by omega]
      · rw [h5, show i + (j + 1) + 1 = i + 1 + j + 1 from by omega, show m + 1 - (j + 1 + 1) = m - (j + 1) from by omega, show c + 1 + j = c + (j + 1) from by omega, show i + (j + 1) = i + 1 + j from by omega]
    · rw [if_neg hs, if_neg hs]
      exact ⟨0, by omega, by simpa using hs, fun t ht => by omega, by simp, by simp⟩

theorem nt_len (W p : Nat) (hW : W ≤ 64) (f : Nat → Nat) (i m c : Nat) (hv : ∀ x, (varB x).length ≤ 80) : (F.nt W p f i m c).length ≤ 144 * m := by
  induction m generalizing i c with
  | zero => simp [nt]
  | succ m ih =>
    rw [nt]; split
    · have := ih (i + 1) (c + 1); omega
    · rw [List.length_append, List.length_append, bitsOf_length]
      have := ih (i + 1) 0; have := hv c; omega

theorem wb_len (p : Nat) (f : Nat → Nat) (i m : Nat) (a : Int) (hv : ∀ x, (varB x).length ≤ 80) : (F.wb p f i m a).length ≤ 80 * m := by
  induction m generalizing i a with
  | zero => simp [wb]
  | succ m ih =>
    rw [wb]; split
    · rename_i k _
      rw [List.length_append]
      have := ih (i + 1) k; have := hv (zig (k - a)); omega
    · have := ih (i + 1) a; omega

/-- The bits of a column by Decimal. -/
def dm (W : Nat) (f : Nat → Nat) (n : Nat) : List Bool :=
  bitsOf (F.bs f n F.mostP).1 5 ++ (varB (F.cnt (F.bs f n F.mostP).1 f 0 n) ++ (F.nt W (F.bs f n F.mostP).1 f 0 n 0 ++ F.wb (F.bs f n F.mostP).1 f 0 n 0))

theorem dm_congr (W : Nat) (f g : Nat → Nat) (n : Nat) (h : ∀ j, j < n → f j = g j) : F.dm W f n = F.dm W g n := by
  unfold dm
  rw [F.bs_congr f g n _ h, F.cnt_congr _ f g 0 n fun j _ h2 => h j (by omega), F.nt_congr W _ f g 0 n 0 fun j _ h2 => h j (by omega), F.wb_congr _ f g 0 n 0 fun j _ h2 => h j (by omega)]

end Dm
end Go.Proofs.YtgjjkopmoobilaaGreatDoor

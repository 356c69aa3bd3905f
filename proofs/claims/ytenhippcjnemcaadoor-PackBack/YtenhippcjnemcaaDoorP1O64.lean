/- The contract of Unpack (64 bits). -/
import Derived.Test.YtenhippcjnemcaaDoorP1M64
import Derived.Test.YtenhippcjnemcaaDoorB1T
import Derived.Test.YtenhippcjnemcaaDoorP1H64
namespace Go.Proofs.YtenhippcjnemcaaDoor
open Go.RowKit
open M
set_option linter.unusedVariables false
set_option linter.unusedSimpArgs false

set_option maxRecDepth 100000 in
set_option maxHeartbeats 2000000 in
theorem takeAll64_any (b : Nat) (s : ByteArray) (n : Nat) (w : World) (h : Rd w b 0 s 0 0) (hn : n ≤ 4096) (hT : Tab64 w) (hTb : 0 ≠ b) :
    Calls Tryd.prog 20 #[.pointer (some ⟨b, 0, none⟩), .int .i64 n] w (TakeAllEnd64 w b s n) := by
  have hbs : b < w.heap.size := block_lt_of_cell h.text
  have hTs : 0 < w.heap.size := block_lt_of_cell (hT 0 (by omega))
  have H := hide h
  have HT := hide hT
  clear h hT
  have hmk := make_vals64 n hn
  have hA : Hid (Below w.heap.size w (w.alloc (.cells (Array.replicate n (Value.int .u64 0)) 39))) := (Below.refl _ w).alloc (Nat.le_refl _) _
  by_cases h0 : n = 0
  · have hne : ((n : Int) == 0) = true := by rw [beq_iff_eq]; omega
    have H0 := hide h0
    clear h0
    go_enter Tryd.func20, Tryd.ntmps20
    go_wp2_with fail
    go_ret2
    refine .inr ⟨0, 0, fun _ => 0, rfl, ?_, H.out.below hA.out hbs, hA.out.mono (Nat.le_of_lt hbs), fun i hi => by have := H0.out; omega, fun _ => by rw [H0.out]; simp [cbn], fun h hB => ⟨rfl, fun i hi => by have := H0.out; omega⟩⟩
    rw [H0.out]; exact UW64.new w 0 _
  have hne : ((n : Int) == 0) = false := by rw [beq_eq_false_iff_ne]; omega
  have hn0 : 0 < n := by omega
  have HN : Hid (UW64 (w.alloc (.cells (Array.replicate n (Value.int .u64 0)) 39)) w.heap.size n 0 (fun _ => 0)) := UW64.new w n _
  have HR : Hid (Rd (w.alloc (.cells (Array.replicate n (Value.int .u64 0)) 39)) b 0 s 0 0) := H.out.below hA.out hbs
  have hs1 : Hid (w.heap.size < (w.alloc (.cells (Array.replicate n (Value.int .u64 0)) 39)).heap.size) := by show _ < _; simp
  have hgb : w.heap.size ≠ b := by omega
  go_enter Tryd.func20, Tryd.ntmps20
  go_upto_region 4 with fail
  generalize w.alloc (.cells (Array.replicate n (Value.int .u64 0)) 39) = W0 at *
  clear hmk
  go_wp2_with fail
  refine (width64_any _).mono ?_
  rintro e wy ⟨rfl, hwy⟩
  have hwy := hwy.symm
  subst hwy
  go_wp2_with fail
  refine (tk_bits b 0 s 0 64 0 W0 HR.out (by omega)).mono ?_
  rintro e w1 ⟨x, a, e1, rfl, hx, T⟩
  have hxM : x < 18446744073709551616 := hx
  have x1 : IntKind.u64.wrap (x : Int) = (x : Int) := wrap_nat64 hxM
  have HX := hide hxM
  clear hx hxM
  have e1b := T.only.block w.heap.size hs1.out hgb
  have R1 : UW64 w1 w.heap.size n 0 (fun _ => 0) := HN.out.ofBlock e1b
  have c1 : w1.cell? ⟨w.heap.size, 0, none⟩ = some (.int .u64 0) := R1.cell 0 (by omega)
  have c2 := R1.fz 0
  obtain ⟨g, hg⟩ : ∃ g, w.heap.size = g := ⟨_, rfl⟩
  have HT1 : Hid (UW64 (w1.setCell ⟨w.heap.size, 0, none⟩ (.int .u64 (x : Int))) w.heap.size n 1 (fun _ => x) ∧ Rd (w1.setCell ⟨w.heap.size, 0, none⟩ (.int .u64 (x : Int))) b 0 s a e1 ∧ Only b 0 3 w (w1.setCell ⟨w.heap.size, 0, none⟩ (.int .u64 (x : Int))) ∧ w.heap.size < (w1.setCell ⟨w.heap.size, 0, none⟩ (.int .u64 (x : Int))).heap.size) := by
    have O1 : Only b 0 3 w w1 := Only.trans ⟨hA.out.os, hA.out.tape, hA.out.output, hA.out.size, fun k hk _ => hA.out.block k hk, fun j _ => World.cell?_of_block (hA.out.block b hbs), fun j => World.frozen?_of_block (w := w) (w' := W0) (a := ⟨b, j, none⟩) (hA.out.block b hbs)⟩ T.only
    refine ⟨(R1.set (by omega) x).congr fun i hi => by rw [if_pos (by omega)], T.rd.setOther' _ 0 hgb _, O1.setOther' _ 0 (Nat.le_refl _) hgb _, ?_⟩
    have := T.only.size
    have := hs1.out
    simp [World.setCell]; omega
  have HTS := hide (And.intro T.sound T.full)
  have c3 := cell_setCell_eq w1 w.heap.size 0 (.int .u64 (x : Int)) _ c1
  clear R1 T e1b
  rw [hg] at c1 c2 c3 HT1 hgb ⊢
  go_upto_region 5 with fail
  generalize w1.setCell ⟨g, 0, none⟩ (.int .u64 (x : Int)) = W1 at *
  clear c1 c2
  have hN2 := heap_alloc_new W1 (.cells #[.int .u64 (x : Int), .int .i64 0, .int .i64 0] 75)
  have B2 : Below W1.heap.size W1 (W1.alloc (.cells #[.int .u64 (x : Int), .int .i64 0, .int .i64 0] 75)) := (Below.refl _ _).alloc (Nat.le_refl _) _
  have HCN : Hid (Cn64 w (W1.alloc (.cells #[.int .u64 (x : Int), .int .i64 0, .int .i64 0] 75)) b W1.heap.size s g n 0 a e1 (fun _ => x) ∧ g < W1.heap.size ∧ Tab64 (W1.alloc (.cells #[.int .u64 (x : Int), .int .i64 0, .int .i64 0] 75))) := by
    have hgs := HT1.out.2.2.2
    have tw : Two64 b W1.heap.size w (W1.alloc (.cells #[.int .u64 (x : Int), .int .i64 0, .int .i64 0] 75)) := (Two64.ofB HT1.out.2.2.1).trans (Two64.ofBelow B2)
    have hbW : b < W1.heap.size := by omega
    refine ⟨⟨HT1.out.1.ofBlock (B2.block g (by omega)), HT1.out.2.1.below B2 hbW, ⟨?_, ?_, ?_, fun i => frozen_of_row _ _ _ _ _ hN2⟩, tw, ?_, fun i hi => HX.out, fun he => ?_, ?_⟩, by omega, tw.tab HT.out hTb (by omega)⟩
    · rw [cell_of_row _ _ _ _ _ _ hN2]; rfl
    · rw [cell_of_row _ _ _ _ _ _ hN2]; rfl
    · rw [cell_of_row _ _ _ _ _ _ hN2]; rfl
    · have := B2.size; omega
    · rw [cbn_one, (HTS.out.1 he).2]; simp
    · rintro h ⟨hr, r, hR⟩
      obtain ⟨r1, h1⟩ := cbn_prefix 64 6 h 1 n (by omega)
      rw [h1, cbn_one, List.append_assoc] at hR
      have he : e1 = 0 := HTS.out.2 (by trivial) (by rw [hR]; simp)
      refine ⟨he, fun i hi => ?_⟩
      obtain rfl : i = 0 := by omega
      have h2 := take_eq_drop' _ _ 0 a (by rw [(HTS.out.1 he).2])
      rw [List.drop_zero, hR] at h2
      exact ((pbits_inj _ _ 64 _ _ (hr 0 (by omega)) HX.out h2).1).symm
  go_wp2_with fail
  obtain ⟨c, hcw⟩ : ∃ c, W1.heap.size = c := ⟨_, rfl⟩
  rw [hcw] at HCN ⊢
  clear hN2 B2 c3 hcw
  generalize W1.alloc (.cells #[.int .u64 (x : Int), .int .i64 0, .int .i64 0] 75) = W2 at *
  have hgc : g < c := HCN.out.2.1
  have hbc : c ≠ b := by omega
  go_loopw [4, 7] (fun t4 t7 wr => ∃ (k a : Nat) (e1 : Int) (f : Nat → Nat), t4 = .slice (some ⟨g, 0, none⟩) n n ∧ t7 = .int .i64 ((k : Int) + 1) ∧ Hid (k < n) ∧ Hid (Cn64 w wr b c s g n k a e1 f ∧ Tab64 wr)) (fun _ t7 _ => n - (intOf t7).toNat)
  case atStart => exact ⟨0, a, e1, _, rfl, rfl, hn0, HCN.out.1, HCN.out.2.2⟩
  case round =>
    clear HT1 HX HCN HTS
    obtain ⟨k, a, e1, f, rfl, rfl, hk, hI⟩ := hrel
    by_cases hlt : k + 1 < n
    · go_wp2_with fail
      refine (take64_any b c s a e1 (f k) (win 64 6 f k).1 (win 64 6 f k).2 wr hI.out.1.rd hI.out.1.col hbc (win_win 64 6 f (by omega) k (fun j hj => hI.out.1.rng j (by omega))) (hI.out.1.rng k (by omega)) hI.out.2 hTb (by omega)).mono ?_
      rintro e w2 ⟨ok, x, a2, e2, rfl, R2, T2, hx, hok, hfull⟩
      have HU := hide hx
      have HS := hide hok
      have HF := hide hfull
      have HR2 := hide R2
      have HT2 := hide T2
      clear hx hok hfull R2 T2
      cases ok with
      | false =>
        go_wp2_with fail
        go_ret2
        refine .inl ⟨rfl, (hI.out.1.two.trans HT2.out).below (Nat.le_refl _) (by omega) (by omega), hI.out.1.none hlt fun h1 y r hy hr => ?_⟩
        have := (HF.out h1 y r hy hr).1
        cases this
      | true =>
        have NX := Cn64.next hlt (Nat.le_of_eq hg) hgb (by omega) hI.out.1 x HU.out HR2.out HT2.out (HS.out rfl).1 (HS.out rfl).2 (fun h y r hy hr => ⟨(HF.out h y r hy hr).2.1, (HF.out h y r hy hr).2.2⟩)
        obtain ⟨q, hq⟩ : ∃ q : Nat, f k ^^^ x = q := ⟨_, rfl⟩
        have cq : w2.cell? ⟨c, 0, none⟩ = some (.int .u64 (q : Int)) := by rw [← hq]; exact (HS.out rfl).1.ahead
        have RW := hI.out.1.row.ofBlock (HT2.out.block g hI.out.1.size hgb (by omega))
        have c2 : w2.cell? ⟨g, k + 1, none⟩ = some (.int .u64 0) := by rw [RW.cell (k + 1) hlt, if_neg (by omega)]; rfl
        have c3 := RW.fz (k + 1)
        rw [hq] at NX
        have HNX := hide NX
        have HTb2 : Hid (Tab64 w2) := HT2.out.tab hI.out.2 hTb (by omega)
        clear NX hq RW
        go_wp2_with fail
        go_roundw
        case rel =>
          refine ⟨k + 1, a2, e2, _, rfl, by simp, hlt, HNX.out, ?_⟩
          exact fun j hj => by
            rw [World.cell?_of_block (w := w2) (Below.heap_setCell _ _ _ _ (show 0 ≠ g by omega))]; exact HTb2.out j hj
        case measure => simp [intOf]; omega
    · go_wp2_with fail
      go_ret2
      obtain rfl : n = k + 1 := by have := hk.out; omega
      refine .inr ⟨a, e1, f, by rw [hg]; rfl, by rw [hg]; exact hI.out.1.row, hI.out.1.rd, hI.out.1.two.below (Nat.le_refl _) (by omega) (by omega), hI.out.1.rng, hI.out.1.sound, hI.out.1.full⟩

end Go.Proofs.YtenhippcjnemcaaDoor

namespace Go.Proofs.YtenhippcjnemcaaDoor
open Go.RowKit
open M
set_option linter.unusedVariables false
set_option linter.unusedSimpArgs false

/-- The bytes are those of n values h. -/
def Packs64 (bs : List Nat) (h : Nat → Nat) (n : Nat) : Prop := (∀ i, i < n → h i < 18446744073709551616) ∧ packed (cbn 64 6 h n) = bs

theorem begins_of64 {bs : List Nat} {h : Nat → Nat} {n : Nat} (hP : Packs64 bs h n) : Begins64 (rbits bs) h n := by
  obtain ⟨h1, h2⟩ := hP
  exact ⟨h1, _, by rw [← h2, rbits_packed]⟩

/-- What Unpack tells, and where the values lie: in a block of their own. -/
def UnpackEnd64 (w : World) (bs : List Nat) (n : Nat) (e : Ending) (w' : World) : Prop :=
  (e = .returned (.tuple #[.slice none 0 0, .int .i64 71]) ∧ Below w.heap.size w w' ∧ ¬ ∃ h, Packs64 bs h n) ∨
    ∃ (g : Nat) (f : Nat → Nat), e = .returned (.tuple #[.slice (some ⟨g, 0, none⟩) n n, .int .i64 0]) ∧ w.heap.size ≤ g ∧ UW64 w' g n n f ∧ Below w.heap.size w w' ∧ Packs64 bs f n ∧
      ∀ h, Begins64 (rbits bs) h n → ∀ i, i < n → f i = h i

theorem ended64 {s : ByteArray} {bs : List Nat} {n a : Nat} {e1 : Int} {f h : Nat → Nat} (hb : ∀ n ∈ bs, n < 256) (hs : s = strOf bs) (hle : a ≤ 8 * s.size) (sound : e1 = 0 → (rb s).take a = cbn 64 6 f n) (full : ∀ h, Begins64 (rb s) h n → e1 = 0 ∧ ∀ i, i < n → f i = h i) (hP : Packs64 bs h n) : endE s a e1 = 0 := by
  subst hs
  obtain ⟨h1, h2⟩ := full h (by rw [rb_strOf bs hb]; exact begins_of64 hP)
  subst h1
  have h3 := sound rfl
  rw [cbn_congr _ _ _ _ _ h2] at h3
  have h4 := congrArg List.length h3
  rw [List.length_take, rb_length, Nat.min_eq_left hle] at h4
  obtain ⟨_, hbs⟩ := hP
  rw [← hbs, h4]
  exact end_packed _

theorem packs64 {s : ByteArray} {bs : List Nat} {n a : Nat} {e1 : Int} {f : Nat → Nat} (hb : ∀ n ∈ bs, n < 256) (hs : s = strOf bs) (hle : a ≤ 8 * s.size) (rng : ∀ i, i < n → f i < 18446744073709551616) (sound : e1 = 0 → (rb s).take a = cbn 64 6 f n) (hE : endE s a e1 = 0) : Packs64 bs f n := by
  subst hs
  refine ⟨rng, ?_⟩
  unfold endE at hE
  by_cases he : e1 = 0
  · rw [if_pos he] at hE
    have hs : (strOf bs).size = bs.length := by simp
    rw [hs, rb_strOf bs hb] at hE
    by_cases h8 : 8 ≤ 8 * bs.length - a
    · rw [if_pos h8] at hE; cases hE
    · rw [if_neg h8] at hE
      by_cases hz : num ((rbits bs).drop a) = 0
      · rw [hs] at hle
        have h1 := sound he
        rw [rb_strOf bs hb] at h1
        rw [← h1]
        exact packed_back bs hb a hle (by omega) hz
      · rw [if_neg hz] at hE; cases hE
  · rw [if_neg he] at hE; exact absurd hE he

set_option maxRecDepth 100000 in
set_option maxHeartbeats 1000000 in
theorem unpack64_any (v : Value) (bs : List Nat) (n : Nat) (w : World) (h : IsBy w v bs) (hb : ∀ n ∈ bs, n < 256) (hl : bs.length ≤ 1000000000000) (hn : n ≤ 4096) (hT : Tab64 w) :
    Calls Tryd.prog 11 #[v, .int .i64 n] w (UnpackEnd64 w bs n) := by
  have H := hide h
  have HB := hide hb
  have HL := hide hl
  have HT := hide hT
  have hTs : 0 < w.heap.size := block_lt_of_cell (hT 0 (by omega))
  clear h hb hl hT
  go_enter Tryd.func11, Tryd.ntmps11
  go_wp2_with fail
  refine (from_by w v bs H.out).mono ?_
  rintro e w1 ⟨rfl, hw1⟩
  have HR : Hid (Rd w1 w.heap.size 0 (strOf bs) 0 0) := by rw [hw1]; exact rd_new w bs HL.out
  have HB1 : Hid (Below w.heap.size w w1) := by rw [hw1]; exact (Below.refl _ _).alloc (Nat.le_refl _) _
  clear hw1
  go_wp2_with fail
  refine (takeAll64_any w.heap.size (strOf bs) n w1 HR.out hn (HT.out.below HB1.out) (by omega)).mono ?_
  rintro e w2 (⟨rfl, B2, hno⟩ | ⟨a, e1, f, rfl, U2, R2, B2, rng, sound, full⟩)
  · have HB2 : Hid (Below w.heap.size w w2) := HB1.out.trans B2
    have HNO := hide hno
    clear hno B2
    go_wp2_with fail
    go_ret2
    refine .inl ⟨rfl, HB2.out, fun ⟨h, hP⟩ => HNO.out ⟨h, ?_⟩⟩
    rw [rb_strOf bs HB.out]; exact begins_of64 hP
  · have HB2 : Hid (Below w.heap.size w w2) := HB1.out.trans B2
    have hg1 : Hid (w.heap.size ≤ w1.heap.size) := HB1.out.size
    have HU := hide U2
    have HA := hide (And.intro rng (And.intro sound full))
    have hle := hide R2.le
    have HR2 := hide R2
    clear U2 B2 rng sound full R2
    go_wp2_with fail
    refine (rend_any w.heap.size 0 (strOf bs) a e1 w2 HR2.out).mono ?_
    rintro e w3 ⟨rfl, m, hw3⟩
    have HB3 : Hid (Below w.heap.size w w3) := by rw [hw3]; exact below_drewN HB2.out m
    have HU3 : Hid (UW64 w3 w1.heap.size n n f) := by rw [hw3]; exact ⟨HU.out.cell, HU.out.fz, HU.out.blk⟩
    clear hw3
    by_cases hE : endE (strOf bs) a e1 = 0
    · rw [hE]
      have HE := hide hE
      clear hE
      go_wp2_with fail
      go_ret2
      refine .inr ⟨w1.heap.size, f, rfl, hg1.out, HU3.out, HB3.out, packs64 HB.out rfl hle.out HA.out.1 HA.out.2.1 HE.out, fun h hB => (HA.out.2.2 h (by rw [rb_strOf bs HB.out]; exact hB)).2⟩
    · have hE' : (endE (strOf bs) a e1 != 0) = true := by simp [hE]
      have HE := hide hE
      clear hE
      go_wp2_with fail
      go_ret2
      exact .inl ⟨rfl, HB3.out, fun ⟨h, hP⟩ => HE.out (ended64 HB.out rfl hle.out HA.out.2.1 HA.out.2.2 hP)⟩

theorem unpack64_count (v : Value) (n : Int) (w : World) (hn : n < 0 ∨ 4096 < n) :
    Calls Tryd.prog 11 #[v, .int .i64 n] w fun e w' => e = .returned (.tuple #[.slice none 0 0, .int .i64 70]) ∧ w' = w := by
  by_cases h0 : n < 0
  · go_enter Tryd.func11, Tryd.ntmps11
    go_wp2_with fail
    go_ret2
    exact ⟨rfl, rfl⟩
  · have h1 : 4096 < n := by omega
    go_enter Tryd.func11, Tryd.ntmps11
    go_wp2_with fail
    go_ret2
    exact ⟨rfl, rfl⟩

end Go.Proofs.YtenhippcjnemcaaDoor

/- A row of values that is appended to (32 bits). -/
import Derived.Test.YtleffbpjjbiobaaGreatDoorC1L32
import Derived.Test.YtleffbpjjbiobaaGreatDoorP1Q64
import Derived.Test.YtleffbpjjbiobaaGreatDoorC1S32
import Derived.Deep.AppendLies
import Derived.Deep.CutRange
import Derived.OwnWalk
/- The contract of Plain's unpacking (32 bits). -/
namespace Go.Proofs.YtleffbpjjbiobaaGreatDoor
open Go.RowKit
open M
set_option linter.unusedVariables false
set_option linter.unusedSimpArgs false

/-- An unpacker's answer: n values in a row of their own; those whose bits the text begins with, if there are such. -/
def ValsEnd32 (bf : (Nat → Nat) → Nat → List Bool) (bs : List Nat) (n : Nat) (w : World) (e : Ending) (w' : World) : Prop :=
  ∃ (g : Nat) (f : Nat → Nat), w.heap.size ≤ g ∧ e = .returned (.tuple #[.slice (some ⟨g, 0, none⟩) n n, .int .i64 0]) ∧ UW32 w' g n n f ∧ (∀ i, i < n → f i < 4294967296) ∧ Below w.heap.size w w' ∧
    ∀ h, Beg32 bf (rbits bs) h n → ∀ i, i < n → f i = h i

set_option maxRecDepth 100000 in
set_option maxHeartbeats 1000000 in
theorem unpackPlain32_any (v : Value) (bs : List Nat) (n : Nat) (w : World) (h : IsBy w v bs) (hb : ∀ n ∈ bs, n < 256) (hl : bs.length ≤ 1000000000000) (hn : n ≤ 4096) :
    Calls Tryz.prog 45 #[v, .int .i64 n] w (ValsEnd32 (plB 32) bs n w) := by
  have H := hide h
  have HB := hide hb
  have HL := hide hl
  have hmk := make_vals32 n hn
  clear h hb hl
  go_enter Tryz.func45, Tryz.ntmps45
  go_wp2_with fail
  refine (from_by w v bs H.out).mono ?_
  rintro e w1 ⟨rfl, hw1⟩
  have HR : Hid (Rd w1 w.heap.size 0 (strOf bs) 0 0 ∧ w1.heap.size = w.heap.size + 1 ∧ Below w.heap.size w w1) := by
    rw [hw1]; exact ⟨rd_new w bs HL.out, by simp, (Below.refl _ _).alloc (Nat.le_refl _) _⟩
  clear hw1
  obtain ⟨b, hbw⟩ : ∃ b, w.heap.size = b := ⟨_, rfl⟩
  have HBW := hide hbw
  obtain ⟨g, hg⟩ : ∃ g, w1.heap.size = g := ⟨_, rfl⟩
  have HA : Hid (Ln32 (plB 32) w1 (w1.alloc (.cells (Array.replicate n (Value.int .u32 0)) 42)) b (strOf bs) g n 0 0 0 (fun _ => 0)) := by
    have hA : Below w1.heap.size w1 (w1.alloc (.cells (Array.replicate n (Value.int .u32 0)) 42)) := (Below.refl _ w1).alloc (Nat.le_refl _) _
    have hbs : b < w1.heap.size := by have := HR.out.2.1; omega
    refine ⟨by rw [← hg]; exact UW32.new w1 n _, by rw [← hbw]; exact HR.out.1.below hA (by omega), ⟨hA.os, hA.tape, hA.output, hA.size, fun k hk _ => hA.block k hk, fun j _ => World.cell?_of_block (hA.block b hbs), fun j => World.frozen?_of_block (w := w1) (a := ⟨b, j, none⟩) (hA.block b hbs)⟩, by rw [← hg]; simp, fun i hi => by omega, fun h hB => ⟨rfl, by simp [plB], fun i hi => by omega⟩⟩
  have hgb : g ≠ b := by have := HR.out.2.1; omega
  have HG : Hid (w1.heap.size ≤ g) := Nat.le_of_eq hg
  rw [hbw]
  clear hbw
  go_upto_region 3 with fail
  (try rw [hg])
  clear hg hmk
  generalize w1.alloc (.cells (Array.replicate n (Value.int .u32 0)) 42) = W0 at *
  go_wp2_with fail
  go_loopw [15] (fun t15 wr => ∃ (k a : Nat) (e1 : Int) (f : Nat → Nat), t15 = .int .i64 (k : Int) ∧ Hid (k ≤ n ∧ Ln32 (plB 32) w1 wr b (strOf bs) g n k a e1 f)) (fun t15 _ => n - (intOf t15).toNat)
  case atStart => exact ⟨0, 0, 0, _, rfl, Nat.zero_le _, HA.out⟩
  case round =>
    obtain ⟨k, a, e1, f, rfl, hI⟩ := hrel
    by_cases hlt : k < n
    · go_wp2_with fail
      refine (takeValue32_any b 0 (strOf bs) a e1 wr hI.out.2.rd).mono ?_
      rintro e w2 ⟨x, a', e2, rfl, hx, T⟩
      have NX := Ln32.next lays_plain32 hlt HG.out hgb hI.out.2 x hx T.rd T.only (fun he h r hh hk hr => taken_plain32 hx T (h k) r he hk hr)
      have RW := hI.out.2.row.ofBlock (T.only.block g hI.out.2.size hgb)
      have c2 : w2.cell? ⟨g, k, none⟩ = some (.int .u32 0) := by rw [RW.cell k hlt, if_neg (by omega)]; rfl
      have c3 := RW.fz k
      have HNX := hide NX
      clear NX RW T
      go_wp2_with fail
      go_roundw
      case rel => exact ⟨k + 1, a', e2, _, by simp, hlt, HNX.out⟩
      case measure => simp [intOf]; omega
    · have hk : k = n := by have := hI.out.1; omega
      have hI' : Hid (Ln32 (plB 32) w1 wr b (strOf bs) g n n a e1 f) := by have := hI.out.2; rw [hk] at this; exact this
      go_wp2_with fail
      go_ret2
      refine ⟨g, f, ?_, rfl, hI'.out.row, hI'.out.rng, ?_, fun h hB i hi => ?_⟩
      · have := HR.out.2.1; have := HG.out; omega
      · have := hI'.out.only.below (B := w.heap.size) (by have := HBW.out; omega) (by have := HR.out.2.1; omega)
        exact HR.out.2.2.trans this
      · exact (hI'.out.full h (by rw [rb_strOf bs HB.out]; exact hB)).2.2 i hi

end Go.Proofs.YtleffbpjjbiobaaGreatDoor

/- The contract of Unpack (32 bits). -/
namespace Go.Proofs.YtleffbpjjbiobaaGreatDoor
open Go.RowKit
open M
set_option linter.unusedVariables false
set_option linter.unusedSimpArgs false

set_option maxRecDepth 100000 in
set_option maxHeartbeats 2000000 in
theorem takeAll32_any (b : Nat) (s : ByteArray) (n : Nat) (w : World) (h : Rd w b 0 s 0 0) (hn : n ≤ 4096) (hT : Tab64 w) (hTb : 1 ≠ b) :
    Calls Tryz.prog 77 #[.pointer (some ⟨b, 0, none⟩), .int .i64 n] w (TakeAllEnd32 w b s n) := by
  have hbs : b < w.heap.size := block_lt_of_cell h.text
  have hTs : 1 < w.heap.size := block_lt_of_cell (hT 0 (by omega))
  have H := hide h
  have HT := hide hT
  clear h hT
  have hmk := make_vals32 n hn
  have hA : Hid (Below w.heap.size w (w.alloc (.cells (Array.replicate n (Value.int .u32 0)) 42))) := (Below.refl _ w).alloc (Nat.le_refl _) _
  by_cases h0 : n = 0
  · have hne : ((n : Int) == 0) = true := by rw [beq_iff_eq]; omega
    have H0 := hide h0
    clear h0
    go_enter Tryz.func77, Tryz.ntmps77
    go_wp2_with fail
    go_ret2
    refine .inr ⟨0, 0, fun _ => 0, rfl, ?_, H.out.below hA.out hbs, hA.out.mono (Nat.le_of_lt hbs), fun i hi => by have := H0.out; omega, fun _ => by rw [H0.out]; simp [cbn], fun h hB => ⟨rfl, fun i hi => by have := H0.out; omega⟩⟩
    rw [H0.out]; exact UW32.new w 0 _
  have hne : ((n : Int) == 0) = false := by rw [beq_eq_false_iff_ne]; omega
  have hn0 : 0 < n := by omega
  have HN : Hid (UW32 (w.alloc (.cells (Array.replicate n (Value.int .u32 0)) 42)) w.heap.size n 0 (fun _ => 0)) := UW32.new w n _
  have HR : Hid (Rd (w.alloc (.cells (Array.replicate n (Value.int .u32 0)) 42)) b 0 s 0 0) := H.out.below hA.out hbs
  have hs1 : Hid (w.heap.size < (w.alloc (.cells (Array.replicate n (Value.int .u32 0)) 42)).heap.size) := by show _ < _; simp
  have hgb : w.heap.size ≠ b := by omega
  go_enter Tryz.func77, Tryz.ntmps77
  go_upto_region 4 with fail
  generalize w.alloc (.cells (Array.replicate n (Value.int .u32 0)) 42) = W0 at *
  clear hmk
  go_wp2_with fail
  refine (width32_any _).mono ?_
  rintro e wy ⟨rfl, hwy⟩
  have hwy := hwy.symm
  subst hwy
  go_wp2_with fail
  refine (tk_bits b 0 s 0 32 0 W0 HR.out (by omega)).mono ?_
  rintro e w1 ⟨x, a, e1, rfl, hx, T⟩
  have hxM : x < 4294967296 := hx
  have x1 : IntKind.u32.wrap (x : Int) = (x : Int) := wrap_nat32 hxM
  have HX := hide hxM
  clear hx hxM
  have e1b := T.only.block w.heap.size hs1.out hgb
  have R1 : UW32 w1 w.heap.size n 0 (fun _ => 0) := HN.out.ofBlock e1b
  have c1 : w1.cell? ⟨w.heap.size, 0, none⟩ = some (.int .u32 0) := R1.cell 0 (by omega)
  have c2 := R1.fz 0
  obtain ⟨g, hg⟩ : ∃ g, w.heap.size = g := ⟨_, rfl⟩
  have HT1 : Hid (UW32 (w1.setCell ⟨w.heap.size, 0, none⟩ (.int .u32 (x : Int))) w.heap.size n 1 (fun _ => x) ∧ Rd (w1.setCell ⟨w.heap.size, 0, none⟩ (.int .u32 (x : Int))) b 0 s a e1 ∧ Only b 0 3 w (w1.setCell ⟨w.heap.size, 0, none⟩ (.int .u32 (x : Int))) ∧ w.heap.size < (w1.setCell ⟨w.heap.size, 0, none⟩ (.int .u32 (x : Int))).heap.size) := by
    have O1 : Only b 0 3 w w1 := Only.trans ⟨hA.out.os, hA.out.tape, hA.out.output, hA.out.size, fun k hk _ => hA.out.block k hk, fun j _ => World.cell?_of_block (hA.out.block b hbs), fun j => World.frozen?_of_block (w := w) (w' := W0) (a := ⟨b, j, none⟩) (hA.out.block b hbs)⟩ T.only
    refine ⟨(R1.set (by omega) x).congr fun i hi => by rw [if_pos (by omega)], T.rd.setOther' _ 0 hgb _, O1.setOther' _ 0 (Nat.le_refl _) hgb _, ?_⟩
    have := T.only.size
    have := hs1.out
    simp [World.setCell]; omega
  have HTS := hide (And.intro T.sound T.full)
  have c3 := cell_setCell_eq w1 w.heap.size 0 (.int .u32 (x : Int)) _ c1
  clear R1 T e1b
  rw [hg] at c1 c2 c3 HT1 hgb ⊢
  go_upto_region 5 with fail
  generalize w1.setCell ⟨g, 0, none⟩ (.int .u32 (x : Int)) = W1 at *
  clear c1 c2
  have hN2 := heap_alloc_new W1 (.cells #[.int .u32 (x : Int), .int .i64 0, .int .i64 0] 164)
  have B2 : Below W1.heap.size W1 (W1.alloc (.cells #[.int .u32 (x : Int), .int .i64 0, .int .i64 0] 164)) := (Below.refl _ _).alloc (Nat.le_refl _) _
  have HCN : Hid (Cn32 w (W1.alloc (.cells #[.int .u32 (x : Int), .int .i64 0, .int .i64 0] 164)) b W1.heap.size s g n 0 a e1 (fun _ => x) ∧ g < W1.heap.size ∧ Tab64 (W1.alloc (.cells #[.int .u32 (x : Int), .int .i64 0, .int .i64 0] 164))) := by
    have hgs := HT1.out.2.2.2
    have tw : Two32 b W1.heap.size w (W1.alloc (.cells #[.int .u32 (x : Int), .int .i64 0, .int .i64 0] 164)) := (Two32.ofB HT1.out.2.2.1).trans (Two32.ofBelow B2)
    have hbW : b < W1.heap.size := by omega
    refine ⟨⟨HT1.out.1.ofBlock (B2.block g (by omega)), HT1.out.2.1.below B2 hbW, ⟨?_, ?_, ?_, fun i => frozen_of_row _ _ _ _ _ hN2⟩, tw, ?_, fun i hi => HX.out, fun he => ?_, ?_⟩, by omega, tw.tab HT.out hTb (by omega)⟩
    · rw [cell_of_row _ _ _ _ _ _ hN2]; rfl
    · rw [cell_of_row _ _ _ _ _ _ hN2]; rfl
    · rw [cell_of_row _ _ _ _ _ _ hN2]; rfl
    · have := B2.size; omega
    · rw [cbn_one, (HTS.out.1 he).2]; simp
    · rintro h ⟨hr, r, hR⟩
      obtain ⟨r1, h1⟩ := cbn_prefix 32 5 h 1 n (by omega)
      rw [h1, cbn_one, List.append_assoc] at hR
      have he : e1 = 0 := HTS.out.2 (by trivial) (by rw [hR]; simp)
      refine ⟨he, fun i hi => ?_⟩
      obtain rfl : i = 0 := by omega
      have h2 := take_eq_drop' _ _ 0 a (by rw [(HTS.out.1 he).2])
      rw [List.drop_zero, hR] at h2
      exact ((pbits_inj _ _ 32 _ _ (hr 0 (by omega)) HX.out h2).1).symm
  go_wp2_with fail
  obtain ⟨c, hcw⟩ : ∃ c, W1.heap.size = c := ⟨_, rfl⟩
  rw [hcw] at HCN ⊢
  clear hN2 B2 c3 hcw
  generalize W1.alloc (.cells #[.int .u32 (x : Int), .int .i64 0, .int .i64 0] 164) = W2 at *
  have hgc : g < c := HCN.out.2.1
  have hbc : c ≠ b := by omega
  go_loopw [4, 7] (fun t4 t7 wr => ∃ (k a : Nat) (e1 : Int) (f : Nat → Nat), t4 = .slice (some ⟨g, 0, none⟩) n n ∧ t7 = .int .i64 ((k : Int) + 1) ∧ Hid (k < n) ∧ Hid (Cn32 w wr b c s g n k a e1 f ∧ Tab64 wr)) (fun _ t7 _ => n - (intOf t7).toNat)
  case atStart => exact ⟨0, a, e1, _, rfl, rfl, hn0, HCN.out.1, HCN.out.2.2⟩
  case round =>
    clear HT1 HX HCN HTS
    obtain ⟨k, a, e1, f, rfl, rfl, hk, hI⟩ := hrel
    by_cases hlt : k + 1 < n
    · go_wp2_with fail
      refine (take32_any b c s a e1 (f k) (win 32 5 f k).1 (win 32 5 f k).2 wr hI.out.1.rd hI.out.1.col hbc (win_win 32 5 f (by omega) k (fun j hj => hI.out.1.rng j (by omega))) (hI.out.1.rng k (by omega)) hI.out.2 hTb (by omega)).mono ?_
      rintro e w2 ⟨ok, x, a2, e2, rfl, R2, T2, hx, hok, hfull⟩
      have HU := hide hx
      have HS := hide hok
      have HF := hide hfull
      have HR2 := hide R2
      have HT2 := hide T2
      clear hx hok hfull R2 T2
      cases ok with
      | false =>
        go_wp2_with fail
        go_ret2
        refine .inl ⟨rfl, (hI.out.1.two.trans HT2.out).below (Nat.le_refl _) (by omega) (by omega), hI.out.1.none hlt fun h1 y r hy hr => ?_⟩
        have := (HF.out h1 y r hy hr).1
        cases this
      | true =>
        have NX := Cn32.next hlt (Nat.le_of_eq hg) hgb (by omega) hI.out.1 x HU.out HR2.out HT2.out (HS.out rfl).1 (HS.out rfl).2 (fun h y r hy hr => ⟨(HF.out h y r hy hr).2.1, (HF.out h y r hy hr).2.2⟩)
        obtain ⟨q, hq⟩ : ∃ q : Nat, f k ^^^ x = q := ⟨_, rfl⟩
        have cq : w2.cell? ⟨c, 0, none⟩ = some (.int .u32 (q : Int)) := by rw [← hq]; exact (HS.out rfl).1.ahead
        have RW := hI.out.1.row.ofBlock (HT2.out.block g hI.out.1.size hgb (by omega))
        have c2 : w2.cell? ⟨g, k + 1, none⟩ = some (.int .u32 0) := by rw [RW.cell (k + 1) hlt, if_neg (by omega)]; rfl
        have c3 := RW.fz (k + 1)
        rw [hq] at NX
        have HNX := hide NX
        have HTb2 : Hid (Tab64 w2) := HT2.out.tab hI.out.2 hTb (by omega)
        clear NX hq RW
        go_wp2_with fail
        go_roundw
        case rel =>
          refine ⟨k + 1, a2, e2, _, rfl, by simp, hlt, HNX.out, ?_⟩
          exact fun j hj => by
            rw [World.cell?_of_block (w := w2) (Below.heap_setCell _ _ _ _ (show 1 ≠ g by omega))]; exact HTb2.out j hj
        case measure => simp [intOf]; omega
    · go_wp2_with fail
      go_ret2
      obtain rfl : n = k + 1 := by have := hk.out; omega
      refine .inr ⟨a, e1, f, by rw [hg]; rfl, by rw [hg]; exact hI.out.1.row, hI.out.1.rd, hI.out.1.two.below (Nat.le_refl _) (by omega) (by omega), hI.out.1.rng, hI.out.1.sound, hI.out.1.full⟩

end Go.Proofs.YtleffbpjjbiobaaGreatDoor

namespace Go.Proofs.YtleffbpjjbiobaaGreatDoor
open Go.RowKit
open M
set_option linter.unusedVariables false
set_option linter.unusedSimpArgs false

/-- The bytes are those of n values h. -/
def Packs32 (bs : List Nat) (h : Nat → Nat) (n : Nat) : Prop := (∀ i, i < n → h i < 4294967296) ∧ packed (cbn 32 5 h n) = bs

theorem begins_of32 {bs : List Nat} {h : Nat → Nat} {n : Nat} (hP : Packs32 bs h n) : Begins32 (rbits bs) h n := by
  obtain ⟨h1, h2⟩ := hP
  exact ⟨h1, _, by rw [← h2, rbits_packed]⟩

/-- What Unpack tells, and where the values lie: in a block of their own. -/
def UnpackEnd32 (w : World) (bs : List Nat) (n : Nat) (e : Ending) (w' : World) : Prop :=
  (e = .returned (.tuple #[.slice none 0 0, .int .i64 71]) ∧ Below w.heap.size w w' ∧ ¬ ∃ h, Packs32 bs h n) ∨
    ∃ (g : Nat) (f : Nat → Nat), e = .returned (.tuple #[.slice (some ⟨g, 0, none⟩) n n, .int .i64 0]) ∧ w.heap.size ≤ g ∧ UW32 w' g n n f ∧ Below w.heap.size w w' ∧ Packs32 bs f n ∧
      ∀ h, Begins32 (rbits bs) h n → ∀ i, i < n → f i = h i

theorem ended32 {s : ByteArray} {bs : List Nat} {n a : Nat} {e1 : Int} {f h : Nat → Nat} (hb : ∀ n ∈ bs, n < 256) (hs : s = strOf bs) (hle : a ≤ 8 * s.size) (sound : e1 = 0 → (rb s).take a = cbn 32 5 f n) (full : ∀ h, Begins32 (rb s) h n → e1 = 0 ∧ ∀ i, i < n → f i = h i) (hP : Packs32 bs h n) : endE s a e1 = 0 := by
  subst hs
  obtain ⟨h1, h2⟩ := full h (by rw [rb_strOf bs hb]; exact begins_of32 hP)
  subst h1
  have h3 := sound rfl
  rw [cbn_congr _ _ _ _ _ h2] at h3
  have h4 := congrArg List.length h3
  rw [List.length_take, rb_length, Nat.min_eq_left hle] at h4
  obtain ⟨_, hbs⟩ := hP
  rw [← hbs, h4]
  exact end_packed _

theorem packs32 {s : ByteArray} {bs : List Nat} {n a : Nat} {e1 : Int} {f : Nat → Nat} (hb : ∀ n ∈ bs, n < 256) (hs : s = strOf bs) (hle : a ≤ 8 * s.size) (rng : ∀ i, i < n → f i < 4294967296) (sound : e1 = 0 → (rb s).take a = cbn 32 5 f n) (hE : endE s a e1 = 0) : Packs32 bs f n := by
  subst hs
  refine ⟨rng, ?_⟩
  unfold endE at hE
  by_cases he : e1 = 0
  · rw [if_pos he] at hE
    have hs : (strOf bs).size = bs.length := by simp
    rw [hs, rb_strOf bs hb] at hE
    by_cases h8 : 8 ≤ 8 * bs.length - a
    · rw [if_pos h8] at hE; cases hE
    · rw [if_neg h8] at hE
      by_cases hz : num ((rbits bs).drop a) = 0
      · rw [hs] at hle
        have h1 := sound he
        rw [rb_strOf bs hb] at h1
        rw [← h1]
        exact packed_back bs hb a hle (by omega) hz
      · rw [if_neg hz] at hE; cases hE
  · rw [if_neg he] at hE; exact absurd hE he

set_option maxRecDepth 100000 in
set_option maxHeartbeats 1000000 in
theorem unpack32_any (v : Value) (bs : List Nat) (n : Nat) (w : World) (h : IsBy w v bs) (hb : ∀ n ∈ bs, n < 256) (hl : bs.length ≤ 1000000000000) (hn : n ≤ 4096) (hT : Tab64 w) :
    Calls Tryz.prog 46 #[v, .int .i64 n] w (UnpackEnd32 w bs n) := by
  have H := hide h
  have HB := hide hb
  have HL := hide hl
  have HT := hide hT
  have hTs : 1 < w.heap.size := block_lt_of_cell (hT 0 (by omega))
  clear h hb hl hT
  go_enter Tryz.func46, Tryz.ntmps46
  go_wp2_with fail
  refine (from_by w v bs H.out).mono ?_
  rintro e w1 ⟨rfl, hw1⟩
  have HR : Hid (Rd w1 w.heap.size 0 (strOf bs) 0 0) := by rw [hw1]; exact rd_new w bs HL.out
  have HB1 : Hid (Below w.heap.size w w1) := by rw [hw1]; exact (Below.refl _ _).alloc (Nat.le_refl _) _
  clear hw1
  go_wp2_with fail
  refine (takeAll32_any w.heap.size (strOf bs) n w1 HR.out hn (HT.out.below HB1.out) (by omega)).mono ?_
  rintro e w2 (⟨rfl, B2, hno⟩ | ⟨a, e1, f, rfl, U2, R2, B2, rng, sound, full⟩)
  · have HB2 : Hid (Below w.heap.size w w2) := HB1.out.trans B2
    have HNO := hide hno
    clear hno B2
    go_wp2_with fail
    go_ret2
    refine .inl ⟨rfl, HB2.out, fun ⟨h, hP⟩ => HNO.out ⟨h, ?_⟩⟩
    rw [rb_strOf bs HB.out]; exact begins_of32 hP
  · have HB2 : Hid (Below w.heap.size w w2) := HB1.out.trans B2
    have hg1 : Hid (w.heap.size ≤ w1.heap.size) := HB1.out.size
    have HU := hide U2
    have HA := hide (And.intro rng (And.intro sound full))
    have hle := hide R2.le
    have HR2 := hide R2
    clear U2 B2 rng sound full R2
    go_wp2_with fail
    refine (rend_any w.heap.size 0 (strOf bs) a e1 w2 HR2.out).mono ?_
    rintro e w3 ⟨rfl, m, hw3⟩
    have HB3 : Hid (Below w.heap.size w w3) := by rw [hw3]; exact below_drewN HB2.out m
    have HU3 : Hid (UW32 w3 w1.heap.size n n f) := by rw [hw3]; exact ⟨HU.out.cell, HU.out.fz, HU.out.blk⟩
    clear hw3
    by_cases hE : endE (strOf bs) a e1 = 0
    · rw [hE]
      have HE := hide hE
      clear hE
      go_wp2_with fail
      go_ret2
      refine .inr ⟨w1.heap.size, f, rfl, hg1.out, HU3.out, HB3.out, packs32 HB.out rfl hle.out HA.out.1 HA.out.2.1 HE.out, fun h hB => (HA.out.2.2 h (by rw [rb_strOf bs HB.out]; exact hB)).2⟩
    · have hE' : (endE (strOf bs) a e1 != 0) = true := by simp [hE]
      have HE := hide hE
      clear hE
      go_wp2_with fail
      go_ret2
      exact .inl ⟨rfl, HB3.out, fun ⟨h, hP⟩ => HE.out (ended32 HB.out rfl hle.out HA.out.2.1 HA.out.2.2 hP)⟩

theorem unpack32_count (v : Value) (n : Int) (w : World) (hn : n < 0 ∨ 4096 < n) :
    Calls Tryz.prog 46 #[v, .int .i64 n] w fun e w' => e = .returned (.tuple #[.slice none 0 0, .int .i64 70]) ∧ w' = w := by
  by_cases h0 : n < 0
  · go_enter Tryz.func46, Tryz.ntmps46
    go_wp2_with fail
    go_ret2
    exact ⟨rfl, rfl⟩
  · have h1 : 4096 < n := by omega
    go_enter Tryz.func46, Tryz.ntmps46
    go_wp2_with fail
    go_ret2
    exact ⟨rfl, rfl⟩

end Go.Proofs.YtleffbpjjbiobaaGreatDoor

namespace Go.Proofs.YtleffbpjjbiobaaGreatDoor
open Go.RowKit
open M
set_option linter.unusedVariables false

theorem info32 : ∃ i5, Tryz.prog.info? 42 = some i5 ∧ i5.zero = some (.int .u32 0) ∧ i5.size = 1 ∧ i5.bytes = 32 / 8 := by
  have hz : (Tryz.prog.info? 42).bind (·.zero) = some (.int .u32 0) := by kernel_rfl
  have hs : (Tryz.prog.info? 42).map (·.size) = some 1 := by kernel_rfl
  have hb : (Tryz.prog.info? 42).map (·.bytes) = some (32 / 8) := by kernel_rfl
  cases hi : Tryz.prog.info? 42 with
  | none => simp [hi] at hs
  | some i5 =>
    simp only [hi, Option.bind_some, Option.map_some, Option.some.injEq] at hz hs hb
    exact ⟨i5, rfl, hz, hs, hb⟩

/-- Values as cells. -/
def valsV32 (i : Nat) (f : Nat → Nat) : List Value := (List.range i).map fun j => .int .u32 (f j : Int)

theorem valsV32_succ (i : Nat) (f : Nat → Nat) : valsV32 (i + 1) f = valsV32 i f ++ [.int .u32 (f i : Int)] := by simp [valsV32, List.range_succ]

theorem grown_below32 {w w' : World} {row : Option Nat} {B : Nat} (hg : w.grownBy w' row) (hr : ∀ g, row = some g → B ≤ g) (hB : B ≤ w.heap.size) : Below B w w' :=
  ⟨hg.os, hg.tape, hg.output, hg.size, fun k hk => hg.block k (by omega) (fun e => by have := hr k e.symm; omega)⟩

/-- The slice v is a row of one's own, from block B on, of i values. -/
def USt32 (B : Nat) (w0 : World) (f : Nat → Nat) (i : Nat) (v : Value) (wr : World) : Prop := wr.ownsRow B 42 1 v i (valsV32 i f) ∧ Below B w0 wr ∧ B ≤ w0.heap.size

theorem USt32.nil (w : World) (f : Nat → Nat) : USt32 w.heap.size w f 0 (.slice none 0 0) w := ⟨⟨by simp [valsV32], .inl ⟨rfl, rfl⟩⟩, Below.refl _ _, Nat.le_refl _⟩

theorem USt32.next {B : Nat} {w0 wr w4 : World} {f : Nat → Nat} {i g cap : Nat} {v : Value} {t : Nat} (h : USt32 B w0 f i v wr) (ht : t = f i)
    (ho : w4.ownsRow B 42 1 (.slice (some ⟨g, 0, none⟩) (i + 1) cap) (i + 1) (valsV32 i f ++ [.int .u32 (t : Int)]))
    (hg : (wr.alloc (.cells #[.int .u32 (t : Int)] 42)).grownBy w4 v.ownBlock) : USt32 B w0 f (i + 1) (.slice (some ⟨g, 0, none⟩) (i + 1) cap) w4 := by
  subst ht
  have hs := h.2.1.size
  have h3 := h.2.2
  exact ⟨by rw [valsV32_succ]; exact ho, (h.2.1.alloc (Nat.le_trans h3 hs) _).trans (grown_below32 hg (fun g hg => (h.1.lt g hg).1) (by simp; omega)), h3⟩

theorem USt32.row {B : Nat} {w0 wr : World} {f : Nat → Nat} {i : Nat} {v : Value} (h : USt32 B w0 f i v wr) : ∃ ad cap, v = .slice ad i cap ∧ i ≤ cap ∧ URow32 wr ad i f := by
  rcases h.1.2 with ⟨h1, h2⟩ | ⟨g, cap2, cur, h1, hb, hg, hc2, hm2, hs, ht⟩
  · exact ⟨none, 0, by rw [h1, h2], by omega, by rw [h2]; exact URow32.nil _ _ _⟩
  · refine ⟨_, cap2, h1, hc2, fun _ => ⟨g, 0, rfl, fun j hj => ?_⟩⟩
    have e : (valsV32 i f)[j]? = some (.int .u32 (f j : Int)) := by simp [valsV32, hj]
    rw [Nat.zero_add, cell_of_row wr g j cur _ (0, 0) hg, ← e, ← ht, List.getElem?_take, if_pos (by omega)]
    simp

theorem USt32.congr {B : Nat} {w0 wr : World} {f f' : Nat → Nat} {i : Nat} {v : Value} (h : USt32 B w0 f i v wr) (e : ∀ j, j < i → f j = f' j) : USt32 B w0 f' i v wr := by
  have : valsV32 i f = valsV32 i f' := by
    unfold valsV32
    apply List.map_congr_left
    intro j hj
    rw [e j (List.mem_range.1 hj)]
  exact ⟨by rw [← this]; exact h.1, h.2⟩

end Go.Proofs.YtleffbpjjbiobaaGreatDoor

/- The law's Other, Into. -/
import Derived.Test.YtnjcedlbdjidiaaGreatDoorP3F
import Derived.Test.YtnjcedlbdjidiaaGreatDoorKV32
import Derived.Test.YtnjcedlbdjidiaaGreatDoorP2B
import Derived.Test.YtnjcedlbdjidiaaGreatDoorKQ
import Derived.Test.YtnjcedlbdjidiaaGreatDoorP3M
import Derived.Test.YtnjcedlbdjidiaaGreatDoorB1We
/- The law's narrow: Pack of columns, put into the Late. -/
namespace Go.Proofs.YtnjcedlbdjidiaaGreatDoor
open Go.RowKit
open M
open Classical
set_option linter.unusedVariables false
set_option linter.unusedSimpArgs false

set_option maxRecDepth 100000 in
set_option maxHeartbeats 8000000 in
theorem narrow_any {L : List Kd} (hL : KOk L) (hB : kB ∈ L) (NB NL base : Nat) (F : Nat → KV) (T D U : Nat) (rg rw_ : Option Nat) (G : List Got) (p : Option Addr) (n cap0 : Nat) (f : Nat → Nat) (w : World) (h : BL L w NB NL base F T D U rg rw_ G)
    (hr : URow32 w p n f) (hp : p = none → cap0 = 0) (hf : ∀ i, i < n → f i < 4294967296) (hn : n ≤ 1000000) (hTb : Tab64 w) (htot : T + G.length + 2 ≤ 2000) :
    Calls Tryz.prog 6 #[.slice p n cap0, .pointer (some ⟨NL, 0, none⟩)] w fun q w' => q = .returned (.bool true) ∧ PutPost L w NB NL base F T D U rg rw_ G w' := by
  obtain ⟨bs, hbs⟩ : ∃ bs, bs = pkW 32 5 f n := ⟨_, rfl⟩
  obtain ⟨nb, hnb⟩ : ∃ nb, nb = bs.length := ⟨_, rfl⟩
  obtain ⟨eE, heE⟩ : ∃ eE, eE = pkWE n := ⟨_, rfl⟩
  have hf2 : ∀ i, i < n → f i < 2 ^ 32 := fun i hi => by have := hf i hi; simpa using this
  have hle := pkW_le 32 5 f n wK32 hf2
  have hlt := pkW_lt 32 5 f n
  rw [← hbs] at hle hlt
  have Hbs : Hid (nb = bs.length ∧ bs.length ≤ 50000 ∧ (∀ n ∈ bs, n < 256)) := ⟨hnb, hle, hlt⟩
  have HT : Hid (∀ w', Below w.heap.size w w' → URow32 w' p n f) := fun w' hB => hr.below hB
  have HP : Hid (∀ (w1 : World) (q : Option Addr) (c : Nat), Below w.heap.size w w1 → n ≤ c → URow32 w1 q n f → Calls Tryz.prog 25 #[.slice q n c] w1 fun e w' => ∃ q, e = .returned (.tuple #[.slice q nb nb, .int .i64 eE]) ∧ w'.ownsRow w1.heap.size 5 1 (.slice q nb nb) nb (bytesV bs) ∧ Below w1.heap.size w1 w') := fun w1 q c hbw hc h1 => by rw [heE]; exact tpack32_all q n c f w1 h1 hc hf (hTb.below hbw) bs hbs nb hnb
  have HQ : Hid (∀ (w1 : World) (q : Option Addr) (c : Nat), URow64 w1 q n f → Calls Tryz.prog 19 #[.slice q n c, .int .i64 32] w1 fun e w' => ∃ v, e = .returned (.tuple #[v, .int .i64 eE]) ∧ w'.ownsRow w1.heap.size 5 1 v bs.length (bytesV bs) ∧ Below w1.heap.size w1 w') := fun w1 q c h1 => by rw [heE]; exact rpack7_all 32 5 q n c f w1 wK32 h1 hf2 bs hbs
  have HWi : Hid (∀ (w1 : World), Below w.heap.size w w1 → Calls Tryz.prog 28 #[.slice p n cap0] w1 fun e w' => ∃ ad cp, e = .returned (.slice ad n cp) ∧ n ≤ cp ∧ URow64 w' ad n f ∧ Below w1.heap.size w1 w') := fun w1 hbw => widened_any p n cap0 f w1 (hr.below hbw) hf hn
  have HL1 := hideB (lendU32_any p n cap0 f w hr hp hn)
  have HB : Hid (KOk L ∧ kB ∈ L ∧ BL L w NB NL base F T D U rg rw_ G) := ⟨hL, hB, h⟩
  clear hL hB h hr hp hf hf2 hbs hnb heE hle hlt hTb
  go_enter Tryz.func6, Tryz.ntmps6
  go_wp2_with fail
  refine HL1.out.mono ?_
  rintro _ w1 ⟨g, cap, rfl, hLt, B1⟩
  have hcap : n ≤ cap := by have := hLt.lies.1; omega
  have HP1 := hideB (HP.out w1 _ cap B1 hcap hLt.row)
  have H1 : Hid (LentU32 w1 w.heap.size g cap n f ∧ Below w.heap.size w w1) := ⟨hLt, B1⟩
  clear hLt B1 HL1
  go_wp2_with fail
  refine HP1.out.mono ?_
  rintro _ w2 ⟨pa, rfl, oa, B2⟩
  have L2 := H1.out.1.below B2
  have B12 : Below w.heap.size w w2 := H1.out.2.trans (B2.mono H1.out.2.size)
  have HP2 := hideB (HP.out w2 _ cap B12 hcap L2.row)
  have H2 : Hid (LentU32 w2 w.heap.size g cap n f ∧ w2.ownsRow w1.heap.size 5 1 (.slice pa nb nb) nb (bytesV bs) ∧ Below w1.heap.size w1 w2) := ⟨L2, oa, B2⟩
  clear L2 oa B2 B12 HP1
  go_wp2_with fail
  refine HP2.out.mono ?_
  rintro _ w3 ⟨pb, rfl, ob, B3⟩
  have L3 := H2.out.1.below B3
  have z1 := H1.out.2.size
  have z2 := H2.out.2.2.size
  have z3 := B3.size
  have B13 : Below w.heap.size w w3 := H1.out.2.trans ((H2.out.2.2.mono z1).trans (B3.mono (by omega)))
  have HBk := hideB (backU32_any w.heap.size g cap n p cap0 f w3 hn L3 (HT.out w3 B13))
  have H3 : Hid (LentU32 w3 w.heap.size g cap n f ∧ w3.ownsRow w2.heap.size 5 1 (.slice pb nb nb) nb (bytesV bs) ∧ Below w2.heap.size w2 w3 ∧ Below w.heap.size w w3) := ⟨L3, ob, B3, B13⟩
  clear L3 ob B3 B13 HP2
  go_wp2_with fail
  refine HBk.out.mono ?_
  rintro _ w4 ⟨rfl, m4, hw4⟩
  have L4 : LentU32 w4 w.heap.size g cap n f := by rw [hw4]; exact H3.out.1
  have HOv := hideB (overU32_any w.heap.size g cap n f w4 hn L4)
  have H4 : Hid (w4 = w3.drewN m4) := hw4
  have hg4 : Hid (w.heap.size ≤ g ∧ g < w1.heap.size) := ⟨H1.out.1.lies.2.1, H1.out.1.lies.2.2.1⟩
  clear hw4 L4 HBk
  go_wp2_with fail
  refine HOv.out.mono ?_
  rintro _ w5 ⟨rfl, O5⟩
  have e4 : w4.heap.size = w3.heap.size := by rw [H4.out]; rfl
  have B4 : Below w.heap.size w w4 := by rw [H4.out]; exact below_drewN H3.out.2.2.2 m4
  have B45 : Below w.heap.size w4 w5 := O5.below hg4.out.1 B4.size
  have B5 : Below w.heap.size w w5 := B4.trans B45
  have HWd := hideB (HWi.out w5 B5)
  have H5 : Hid (Only g 0 n w4 w5 ∧ Below w.heap.size w w5) := ⟨O5, B5⟩
  clear O5 B45 B5 B4 HOv
  go_wp2_with fail
  refine HWd.out.mono ?_
  rintro _ wd ⟨ad, cp, rfl, hcp, Rd, Bd⟩
  have HQ1 := hideB (HQ.out wd ad cp Rd)
  have HBd := hideB Bd
  clear Rd Bd HWd
  go_wp2_with fail
  refine HQ1.out.mono ?_
  rintro _ w6 ⟨vx, rfl, ox0, B60⟩
  have B6 : Below w5.heap.size w5 w6 := HBd.out.trans (B60.mono HBd.out.size)
  have ox : w6.ownsRow w5.heap.size 5 1 vx bs.length (bytesV bs) := ownsRow_base ox0 HBd.out.size
  clear ox0 B60
  have z5 := H5.out.1.size
  have z6 := B6.size
  have hgz := hg4.out
  have kp : ∀ k, k < w3.heap.size → k ≠ g → w6.heap[k]? = w3.heap[k]? := fun k hk hne => by
    rw [B6.block k (by omega), H5.out.1.block k (by omega) hne, H4.out]; rfl
  have B16 : Below w.heap.size w w6 := H5.out.2.trans (B6.mono (by omega))
  have oa6 : w6.ownsRow w1.heap.size 5 1 (.slice pa nb nb) nb (bytesV bs) := ownsRow_keep H2.out.2.1 (fun k hk => by
    have hh := H2.out.2.1.lt k hk
    rw [kp k (by omega) (by omega), H3.out.2.2.1.block k hh.2])
  have ob6 : w6.ownsRow w2.heap.size 5 1 (.slice pb nb nb) nb (bytesV bs) := ownsRow_keep H3.out.2.1 (fun k hk => by
    have hh := H3.out.2.1.lt k hk
    exact kp k hh.2 (by omega))
  have BL6 := HB.out.2.2.below B16
  have hbase : base ≤ w.heap.size := HB.out.2.2.base_
  have HA1 := hideB (lateAdd_any NL base nb rg rw_ G pa vx bs w6 BL6.late Hbs.out.1 (ownsRow_base oa6 (by omega)) Hbs.out.2.2 Hbs.out.2.1 (fun w' hC => by_of_row (ownsRow_chg ox hC (BL6.late.data ox (by omega)))) (by omega) (by omega))
  have H6 : Hid (BL L w6 NB NL base F T D U rg rw_ G ∧ w6.ownsRow w1.heap.size 5 1 (.slice pa nb nb) nb (bytesV bs) ∧ w6.ownsRow w2.heap.size 5 1 (.slice pb nb nb) nb (bytesV bs) ∧ w6.ownsRow w5.heap.size 5 1 vx bs.length (bytesV bs) ∧ Below w.heap.size w w6) := ⟨BL6, oa6, ob6, ox, B16⟩
  clear BL6 oa6 ob6 ox B16 B6 HQ1 kp
  go_wp2_with fail
  refine HA1.out.mono ?_
  rintro _ w7 ⟨rfl, hP7⟩
  obtain ⟨BL6, oa6, ob6, ox6, B16⟩ := H6.out
  have nA : ∀ k, (Value.slice pa nb nb).ownBlock = some k → ¬ DB L F G k := fun k hk hh => by
    have h1 := (row_ge oa6 hk).1
    have h2 := HB.out.2.2.dbLt hh
    omega
  obtain ⟨rg1, rw1, u1, BL7, hu1, hr1, C7⟩ := BL6.put HB.out.1 HB.out.2.1 (by omega) nA hP7
  have oa7 := ownsRow_chg oa6 C7 (BL6.late.data oa6 (by omega))
  have ob7 := ownsRow_chg ob6 C7 (BL6.late.data ob6 (by omega))
  have ox7 := ownsRow_chg ox6 C7 (BL6.late.data ox6 (by omega))
  have z7 := C7.size
  have HA2 := hideB (lateAdd_any NL base nb rg1 rw1 _ pb vx bs w7 BL7.late Hbs.out.1 (ownsRow_base ob7 (by omega)) Hbs.out.2.2 Hbs.out.2.1 (fun w' hC => by_of_row (ownsRow_chg ox7 hC (BL7.late.data ox7 (by omega)))) (by omega) (by simp; omega))
  have HF : Hid (∀ w8, LatePost w7 NL base rg1 rw1 (G ++ [⟨.slice pa nb nb, u1, bs⟩]) (.slice pb nb nb) bs w8 → PutPost L w NB NL base F T D U rg rw_ G w8 ∧ w8.ownsRow base 5 1 (.slice pa nb nb) nb (bytesV bs) ∧ w8.ownsRow base 5 1 (.slice pb nb nb) nb (bytesV bs) ∧ w8.ownsRow base 5 1 vx bs.length (bytesV bs)) := fun w8 h8 => by
    obtain ⟨rg', rw', g1, g2, q1, q2⟩ := BL6.put2 HB.out.1 HB.out.2.1 (by omega) nA (fun k hk => by
      have h1 := row_ge ob6 hk
      refine ⟨h1.2, fun hh => ?_, fun hh => ?_⟩
      · have h2 := HB.out.2.2.dbLt hh; omega
      · have h3 := (H2.out.2.1.lt k hh).2; omega) BL7 hu1 hr1 C7 h8
    obtain ⟨_, _, _, _, _, _, _, C8⟩ := h8
    refine ⟨⟨rg', rw', g1, g2, q1, (Chg.below B16).trans' q2⟩, ownsRow_chg (ownsRow_base oa7 (by omega)) C8 (BL7.late.data oa7 (by omega)), ownsRow_chg (ownsRow_base ob7 (by omega)) C8 (BL7.late.data ob7 (by omega)), ownsRow_chg (ownsRow_base ox7 (by omega)) C8 (BL7.late.data ox7 (by omega))⟩
  clear BL7 oa7 ob7 ox7 hu1 hr1 C7 BL6 oa6 ob6 ox6 B16 HA1 hP7 nA
  go_wp2_with fail
  refine HA2.out.mono ?_
  rintro _ w8 ⟨rfl, hP8⟩
  obtain ⟨PP, oa8, ob8, ox8⟩ := HF.out w8 hP8
  have HPP := hideB PP
  have hcva : (convert 59 9 (.slice pa nb nb)).run Tryz.prog w8 = .ok (.string (strOf bs)) w8 := convert_by _ _ _ (by_of_row oa8)
  have hcvb : (convert 59 9 (.slice pb nb nb)).run Tryz.prog w8 = .ok (.string (strOf bs)) w8 := convert_by _ _ _ (by_of_row ob8)
  have hcvx : (convert 59 9 vx).run Tryz.prog w8 = .ok (.string (strOf bs)) w8 := convert_by _ _ _ (by_of_row ox8)
  clear PP oa8 ob8 ox8 HF HA2 hP8 H1 H2 H3 H4 H5 H6
  generalize strOf bs = ss at *
  go_wp2_with fail
  refine (num_any _ _).mono ?_
  rintro _ w9 ⟨rfl, hw9⟩
  have hw9 := hw9.symm
  subst hw9
  go_wp2_with fail
  refine (num_any _ _).mono ?_
  rintro _ w9 ⟨rfl, hw9⟩
  have hw9 := hw9.symm
  subst hw9
  go_wp2_with fail
  go_ret
  exact ⟨rfl, HPP.out⟩

end Go.Proofs.YtnjcedlbdjidiaaGreatDoor

/- How many are asked of the bytes of a place. -/
namespace Go.Proofs.YtnjcedlbdjidiaaGreatDoor
open Go.RowKit
open M
set_option linter.unusedVariables false

set_option maxRecDepth 100000 in
set_option maxHeartbeats 1000000 in
theorem n_any (aW aR aB aN : Option Addr) (nW cW nR cR nB cB nN cN k : Nat) (w : World) (hN : RowsOf IsN w aN nN) (hk : k ≤ 1000000) :
    Calls Tryz.prog 9 #[.agg #[.slice aW nW cW, .slice aR nR cR, .slice aB nB cB, .slice aN nN cN], .int .i64 (k : Int)] w fun e w' => ∃ z, e = .returned (.int .i64 z) ∧ I64 z ∧ Below w.heap.size w w' := by
  have hnN := hN.1
  have HN := hide hN
  clear hN
  have HX : Hid ((w.alloc (.cells #[.slice aW nW cW, .slice aR nR cR, .slice aB nB cB, .slice aN nN cN] 27)).heap[w.heap.size]? = some (.cells #[.slice aW nW cW, .slice aR nR cR, .slice aB nB cB, .slice aN nN cN] 27 (0, 0))) := heap_alloc_new _ _
  have HB0 : Hid (Below w.heap.size w (w.alloc (.cells #[.slice aW nW cW, .slice aR nR cR, .slice aB nB cB, .slice aN nN cN] 27))) := (Below.refl _ _).alloc (Nat.le_refl _) _
  by_cases hlt : k < nN
  · obtain ⟨b, o, rfl, hc⟩ := HN.out.2 (by omega)
    obtain ⟨v, hv, z, rfl, hz⟩ := hc k hlt
    have c1 : (w.alloc (.cells #[.slice aW nW cW, .slice aR nR cR, .slice aB nB cB, .slice (some ⟨b, o, none⟩) nN cN] 27)).cell? ⟨b, o + k, none⟩ = some (.int .i64 z) := by rw [HB0.out.cell (p := ⟨b, o + k, none⟩) (block_lt_of_cell hv)]; exact hv
    clear hc hv
    go_enter Tryz.func9, Tryz.ntmps9
    go_wp2_with fail
    go_ret
    exact ⟨z, rfl, hz, HB0.out⟩
  · go_enter Tryz.func9, Tryz.ntmps9
    go_wp2_with fail
    go_ret
    exact ⟨0, rfl, by unfold I64; omega, HB0.out⟩

end Go.Proofs.YtnjcedlbdjidiaaGreatDoor

namespace Go.Proofs.YtnjcedlbdjidiaaGreatDoor
open Go.RowKit
open M
set_option linter.unusedVariables false

/-- A row of bytes of one's own, from block B on. -/
def BSt (B : Nat) (w0 : World) (ys : List Nat) (v : Value) (wr : World) : Prop := wr.ownsRow B 5 1 v ys.length (bytesV ys) ∧ Below B w0 wr ∧ B ≤ w0.heap.size

theorem BSt.next {B : Nat} {w0 wr w4 : World} {ys : List Nat} {g cap : Nat} {v : Value} {y : Nat} (h : BSt B w0 ys v wr)
    (ho : w4.ownsRow B 5 1 (.slice (some ⟨g, 0, none⟩) (ys.length + 1) cap) (ys.length + 1) (bytesV ys ++ [.int .u8 (y : Int)]))
    (hg : (wr.alloc (.cells #[.int .u8 (y : Int)] 5)).grownBy w4 v.ownBlock) : BSt B w0 (ys ++ [y]) (.slice (some ⟨g, 0, none⟩) (ys.length + 1) cap) w4 := by
  have hs := h.2.1.size
  have h3 := h.2.2
  exact ⟨by simpa [bytesV] using ho, (h.2.1.alloc (Nat.le_trans h3 hs) _).trans (grown_below hg (fun g hg => (h.1.lt g hg).1) (by simp; omega)), h3⟩

theorem BSt.bytes {B : Nat} {w0 wr : World} {ys : List Nat} {v : Value} (h : BSt B w0 ys v wr) : (v = .slice none 0 0 ∧ ys = []) ∨ ∃ g cap, v = .slice (some ⟨g, 0, none⟩) ys.length cap ∧ B ≤ g ∧ g < wr.heap.size ∧ (∀ i, i < ys.length → wr.cell? ⟨g, i, none⟩ = some (.int .u8 (ys.getD i 0 : Nat))) ∧ ∀ i, wr.frozen? ⟨g, i, none⟩ = false := by
  rcases h.1.2 with ⟨h1, h2⟩ | ⟨g, cap2, cur, h1, hb, hg, hc2, hm2, hs, ht⟩
  · exact .inl ⟨h1, List.length_eq_zero_iff.1 h2⟩
  · refine .inr ⟨g, cap2, h1, hb, ?_, fun i hi => ?_, fun i => frozen_of_row _ _ _ _ _ hg⟩
    · rcases Nat.lt_or_ge g wr.heap.size with hlt | hge
      · exact hlt
      · rw [Array.getElem?_eq_none hge] at hg; cases hg
    · have e : (bytesV ys)[i]? = some (.int .u8 (ys.getD i 0 : Nat)) := by simp [bytesV, List.getD, hi]
      rw [cell_of_row wr g i cur _ (0, 0) hg, ← e, ← ht, List.getElem?_take, if_pos (by omega)]
      simp

theorem BSt.isBytes {B : Nat} {w0 wr : World} {ys : List Nat} {v : Value} (h : BSt B w0 ys v wr) : IsBytes wr v ys := by
  rcases h.bytes with h | ⟨g, cap, h1, _, _, h2, _⟩
  · exact .inl h
  · exact .inr ⟨g, 0, cap, h1, fun i hi => by rw [Nat.zero_add]; exact h2 i hi⟩

/-- Bytes that lie in a block of their own, from block B on. -/
def OwnB (B : Nat) (w : World) (v : Value) (ys : List Nat) : Prop := IsBytes w v ys ∧ (∀ x ∈ ys, x < 256) ∧ ∀ ad n cap, v = .slice (some ad) n cap → B ≤ ad.block ∧ ad.block < w.heap.size

theorem xor1_u8 : ∀ y : Fin 256, bits BinOp.xor IntKind.u8 (y.val : Int) 1 = ((if y.val % 2 = 0 then y.val + 1 else y.val - 1 : Nat) : Int) := by decide +kernel

theorem xor1_ex (y : Nat) (hy : y < 256) : ∃ z : Nat, z < 256 ∧ bits BinOp.xor IntKind.u8 (y : Int) 1 = (z : Int) := ⟨_, by split <;> omega, xor1_u8 ⟨y, hy⟩⟩

/-- Where n bytes lie. -/
theorem IsBy.at {w : World} {v : Value} {bs : List Nat} (h : IsBy w v bs) : ∃ p cap, v = .slice p bs.length cap ∧ (0 < bs.length → ∃ b o, p = some ⟨b, o, none⟩ ∧ ∀ i, i < bs.length → w.cell? ⟨b, o + i, none⟩ = some (.int .u8 (bs.getD i 0 : Nat))) := by
  rcases h with (⟨rfl, rfl⟩ | ⟨g, o, cap, rfl, hc⟩) | ⟨ad, cap, rfl, rfl⟩
  · exact ⟨none, 0, rfl, fun h => by simp at h⟩
  · exact ⟨_, cap, rfl, fun _ => ⟨g, o, rfl, hc⟩⟩
  · exact ⟨_, cap, rfl, fun h => by simp at h⟩

set_option maxRecDepth 100000 in
set_option maxHeartbeats 4000000 in
theorem other_any (v : Value) (bs : List Nat) (w : World) (h : IsBy w v bs) (hb : ∀ x ∈ bs, x < 256) (hn : bs.length ≤ 1000000) :
    Calls Tryz.prog 11 #[v] w fun e w' => ∃ r ys, e = .returned r ∧ ys.length = bs.length ∧ OwnB w.heap.size w' r ys ∧ Below w.heap.size w w' := by
  obtain ⟨i5, hi5⟩ := info5
  have Hi : Hid (Tryz.prog.info? 5 = some i5 ∧ i5.zero = some (.int .u8 0) ∧ i5.size = 1 ∧ i5.bytes = 1) := hi5
  obtain ⟨p, cap0, rfl, hat⟩ := h.at
  obtain ⟨n, hn'⟩ : ∃ n, bs.length = n := ⟨_, rfl⟩
  rw [hn'] at hat hn h
  have HV : Hid (IsBy w (.slice p n cap0) bs) := h
  have HA := hide hat
  have HB := hide hb
  have HN : Hid (bs.length = n) := hn'
  rw [hn']
  clear hat hb h hi5 hn'
  go_enter Tryz.func11, Tryz.ntmps11
  go_wp2_with fail
  go_loopw [3, 4] (fun t3 t4 wr => ∃ ys : List Nat, ys.length ≤ n ∧ t4 = .int .i64 ((n : Int) - 1 - (ys.length : Int)) ∧ Hid (BSt w.heap.size w ys t3 wr ∧ ∀ x ∈ ys, x < 256)) (fun _ t4 _ => (intOf t4 + 1).toNat)
  case atStart => exact ⟨[], by simp, by simp, ⟨⟨⟨rfl, .inl ⟨rfl, rfl⟩⟩, Below.refl _ _, Nat.le_refl _⟩, by simp⟩⟩
  case round =>
    obtain ⟨ys, hi, rfl, HS⟩ := hrel
    by_cases hlt : ys.length < n
    · obtain ⟨b, o, rfl, hc⟩ := HA.out (by omega)
      obtain ⟨k, hk⟩ : ∃ k : Nat, (n : Int) - 1 - (ys.length : Int) = (k : Int) := ⟨n - 1 - ys.length, by omega⟩
      have hkn : k < n := by omega
      have hc1 : wr.cell? ⟨b, o + k, none⟩ = some (.int .u8 (bs.getD k 0 : Nat)) := by
        rw [HS.out.1.2.1.cell (p := ⟨b, o + k, none⟩) (block_lt_of_cell (hc k (by omega)))]; exact hc k (by omega)
      have hy : bs.getD k 0 < 256 := by
        have hkl : k < bs.length := by have := HN.out; omega
        rw [List.getD_eq_getElem?_getD, List.getElem?_eq_getElem hkl]; exact HB.out _ (List.getElem_mem hkl)
      generalize bs.getD k 0 = y at *
      rw [hk]
      clear hc
      go_wp2_with (at_builtin; refine wpList_append_lies _ rfl _ _ _ rfl w.heap.size 5 i5 (.int .u8 0) 1 1 Tryz.underlying59 Hi.out.1 Hi.out.2.1 Hi.out.2.2.1 Hi.out.2.2.2 rfl (by decide) _ ys.length (bytesV ys) rfl (HS.out.1.1.alloc _) ⟨wr.heap.size, 0, none⟩ 1 1 [.int .u8 (y : Int)] rfl rfl ?d2 ?d3 (by decide) ?d4 ?d5 ?d7 _ rfl ?d6)
      case d2 => intro j u hj; exact cell_new1 wr _ 5 j u hj
      case d3 => intro u hu; simp at hu; subst hu; rfl
      case d4 => unfold maxLen; omega
      case d5 => omega
      case d7 => have := HS.out.1.2.1.size; simp; omega
      case d6 =>
        intro g cap w4 ho4 hg4 hat4 hlt4
        have HS4 : Hid (BSt w.heap.size w (ys ++ [y]) (.slice (some ⟨g, 0, none⟩) (ys.length + 1) cap) w4 ∧ ∀ x ∈ ys ++ [y], x < 256) := ⟨HS.out.1.next ho4 hg4, fun x hx => by
          rcases List.mem_append.1 hx with h | h
          · exact HS.out.2 x h
          · simp at h; omega⟩
        clear ho4 hg4 hat4 hlt4 HS
        go_wp2_with fail
        go_roundw
        case rel => exact ⟨ys ++ [y], by simp; omega, by simp; omega, HS4⟩
        case measure => simp [intOf]
    · have hin : ys.length = n := by omega
      rcases Nat.eq_zero_or_pos n with h0 | h0
      · subst h0
        rcases HS.out.1.bytes with ⟨rfl, h1⟩ | ⟨g, c, rfl, h2, h3, h4, h5⟩
        · have HF : Hid (OwnB w.heap.size wr (.slice none 0 0) ys ∧ Below w.heap.size w wr) := ⟨⟨HS.out.1.isBytes, HS.out.2, fun ad n cap hv => by cases hv⟩, HS.out.1.2.1⟩
          clear HS
          go_wp2_with fail
          go_ret
          exact ⟨_, ys, rfl, hin, HF.out⟩
        · have HF : Hid (OwnB w.heap.size wr (.slice (some ⟨g, 0, none⟩) ys.length c) ys ∧ Below w.heap.size w wr) := ⟨⟨HS.out.1.isBytes, HS.out.2, fun ad n cap hv => by cases hv; exact ⟨h2, h3⟩⟩, HS.out.1.2.1⟩
          clear HS
          go_wp2_with fail
          go_ret
          exact ⟨_, ys, rfl, hin, HF.out⟩
      · rcases HS.out.1.bytes with ⟨_, h1⟩ | ⟨g, c, rfl, h2, h3, h4, h5⟩
        · subst h1; simp at hin; omega
        · have hc1 := convert_bytes wr _ ys HS.out.1.isBytes
          have hc2 := convert_by wr _ bs (isBy_below HV.out HS.out.1.2.1)
          rw [hin] at hc1
          rw [hin]
          have HF : Hid (OwnB w.heap.size wr (.slice (some ⟨g, 0, none⟩) n c) ys ∧ Below w.heap.size w wr) := ⟨⟨by have := HS.out.1.isBytes; rwa [hin] at this, HS.out.2, fun ad n cap hv => by cases hv; exact ⟨h2, h3⟩⟩, HS.out.1.2.1⟩
          have h0' : (0 : Int) < (n : Int) := by omega
          obtain ⟨k, hk⟩ : ∃ k : Nat, (n : Int) - 1 = (k : Int) := ⟨n - 1, by omega⟩
          have hkn : k < n := by omega
          have hki : (k : Int) < (n : Int) := by omega
          have hck := h4 k (by omega)
          have hfk := h5 k
          have hy : ys.getD k 0 < 256 := by
            have hkl : k < ys.length := by omega
            rw [List.getD_eq_getElem?_getD, List.getElem?_eq_getElem hkl]; exact HS.out.2 _ (List.getElem_mem hkl)
          have H4 := hide h4
          have HY := hide HS.out.2
          clear HS h4 h5
          generalize strOf ys = s1 at *
          generalize strOf bs = s2 at *
          by_cases heq : (s1.toList == s2.toList) = true
          · obtain ⟨y, hyy⟩ : ∃ y, ys.getD k 0 = y := ⟨_, rfl⟩
            rw [hyy] at hck hy
            obtain ⟨z, hz, hxz⟩ := xor1_ex y hy
            · have HZ : Hid (OwnB w.heap.size (wr.setCell ⟨g, k, none⟩ (.int .u8 (z : Int))) (.slice (some ⟨g, 0, none⟩) n c) (ys.set k z) ∧ Below w.heap.size w (wr.setCell ⟨g, k, none⟩ (.int .u8 (z : Int)))) := by
                have hO : Only g 0 n wr (wr.setCell ⟨g, k, none⟩ (.int .u8 (z : Int))) := (Only.refl _ _ _ _).setCell k (by omega) hkn _
                refine ⟨⟨.inr ⟨g, 0, c, by simp [hin], fun i hi => ?_⟩, fun x hx => ?_, fun ad n cap hv => ?_⟩, HF.out.2.trans (hO.below h2 HF.out.2.size)⟩
                · have hi' : i < ys.length := by simpa using hi
                  rw [Nat.zero_add]
                  by_cases hik : i = k
                  · subst hik
                    rw [cell_setCell_eq _ _ _ _ _ hck]; simp [List.getD, hi']
                  · rw [cell_setCell_ne _ _ _ _ _ hik, H4.out i hi']
                    simp [List.getD, List.getElem?_set_ne (Ne.symm hik)]
                · rcases List.mem_or_eq_of_mem_set hx with h | h
                  · exact HY.out x h
                  · omega
                · cases hv; exact ⟨h2, Nat.lt_of_lt_of_le h3 hO.size⟩
              have HX := hide hxz
              clear hxz
              go_wp2_with fail
              go_ret
              refine ⟨_, ys.set k z, rfl, by simpa using hin, ?_⟩
              rw [HX.out]
              exact HZ.out
          · have heq' : (s1.toList == s2.toList) = false := by simpa using heq
            clear heq
            go_wp2_with fail
            go_ret
            exact ⟨_, ys, rfl, hin, HF.out⟩

set_option maxRecDepth 100000 in
set_option maxHeartbeats 4000000 in
theorem into_any (base g cap n : Nat) (v : Value) (bs ys : List Nat) (w : World) (hn : n = bs.length) (hn2 : n ≤ 1000000) (hL : Lent w base g cap bs) (hv : OwnB (g + 1) w v ys) (hy : ys.length = bs.length) :
    Calls Tryz.prog 12 #[.slice (some ⟨g, 0, none⟩) n cap, v] w fun e w' => e = .returned (.tuple #[]) ∧ Only g 0 n w w' ∧ IsBytes w' (.slice (some ⟨g, 0, none⟩) n cap) ys := by
  obtain ⟨p, cap0, rfl, hat⟩ := IsBy.at (.inl hv.1)
  have hyn : ys.length = n := by omega
  rw [hyn] at hat
  have hap := hv.2.2
  rw [hyn] at hap ⊢
  have HL : Hid (∀ i, i < n → ∃ y : Int, w.cell? ⟨g, i, none⟩ = some (.int .u8 y)) := fun i hi => ⟨_, hL.byte i (by omega)⟩
  have HF : Hid (∀ i, w.frozen? ⟨g, i, none⟩ = false) := hL.free
  have HA : Hid (0 < n → ∃ b o, g ≠ b ∧ p = some ⟨b, o, none⟩ ∧ ∀ i, i < n → w.cell? ⟨b, o + i, none⟩ = some (.int .u8 (ys.getD i 0 : Nat))) := fun h0 => by
    obtain ⟨b, o, hp, hc⟩ := hat h0
    refine ⟨b, o, ?_, hp, hc⟩
    have := (hap _ _ _ (by rw [hp])).1
    simp at this
    omega
  clear hL hat hv hap hn hy
  go_enter Tryz.func12, Tryz.ntmps12
  go_wp2_with fail
  go_loopw [4] (fun t4 wr => ∃ i : Nat, i ≤ n ∧ t4 = .int .i64 i ∧ Hid (Only g 0 n w wr ∧ (∀ j, j < n → ∃ y : Int, wr.cell? ⟨g, j, none⟩ = some (.int .u8 y)) ∧ ∀ j, j < i → wr.cell? ⟨g, j, none⟩ = some (.int .u8 (ys.getD j 0 : Nat)))) (fun t4 _ => n - (intOf t4).toNat)
  case atStart => exact ⟨0, by omega, rfl, ⟨Only.refl _ _ _ _, HL.out, fun j hj => by omega⟩⟩
  case round =>
    obtain ⟨i, hi, rfl, HS⟩ := hrel
    by_cases hlt : i < n
    · have hlt' : (i : Int) < (n : Int) := by omega
      obtain ⟨b, o, hgb, rfl, hcs⟩ := HA.out (by omega)
      obtain ⟨y, hc⟩ := HS.out.2.1 i hlt
      have hc2 : wr.cell? ⟨b, o + i, none⟩ = some (.int .u8 (ys.getD i 0 : Nat)) := by
        have h := hcs i hlt
        rw [World.cell?_of_block (w := w) (HS.out.1.block b (block_lt_of_cell h) (Ne.symm hgb))]; exact h
      have hf : wr.frozen? ⟨g, i, none⟩ = false := by rw [HS.out.1.frozen]; exact HF.out i
      obtain ⟨z, hz⟩ : ∃ z, ys.getD i 0 = z := ⟨_, rfl⟩
      rw [hz] at hc2
      have HS2 : Hid (Only g 0 n w (wr.setCell ⟨g, i, none⟩ (.int .u8 (z : Int))) ∧ (∀ j, j < n → ∃ y : Int, (wr.setCell ⟨g, i, none⟩ (.int .u8 (z : Int))).cell? ⟨g, j, none⟩ = some (.int .u8 y)) ∧ ∀ j, j < i + 1 → (wr.setCell ⟨g, i, none⟩ (.int .u8 (z : Int))).cell? ⟨g, j, none⟩ = some (.int .u8 (ys.getD j 0 : Nat))) := by
        refine ⟨HS.out.1.setCell i (by omega) hlt _, fun j hj => ?_, fun j hj => ?_⟩
        · by_cases hji : j = i
          · subst hji; exact ⟨_, cell_setCell_eq _ _ _ _ _ hc⟩
          · rw [cell_setCell_ne _ _ _ _ _ hji]; exact HS.out.2.1 j hj
        · by_cases hji : j = i
          · subst hji; rw [hz]; exact cell_setCell_eq _ _ _ _ _ hc
          · rw [cell_setCell_ne _ _ _ _ _ hji]; exact HS.out.2.2 j (by omega)
      clear HS hcs hz
      go_wp2_with fail
      exact ⟨⟨i + 1, by omega, by go_num, HS2⟩, by simp [intOf]; omega⟩
    · have hin : i = n := by omega
      go_wp2_with fail
      go_end0
      exact ⟨rfl, HS.out.1, .inr ⟨g, 0, cap, by rw [hyn], fun j hj => by rw [Nat.zero_add]; exact HS.out.2.2 j (by omega)⟩⟩

end Go.Proofs.YtnjcedlbdjidiaaGreatDoor

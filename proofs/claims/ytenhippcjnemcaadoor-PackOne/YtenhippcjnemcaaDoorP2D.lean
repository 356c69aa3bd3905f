/- PackOne: the walk. -/
import Derived.Test.YtenhippcjnemcaaDoorP2C
namespace Go.Proofs.YtenhippcjnemcaaDoor
open Go.RowKit
open M
set_option linter.unusedVariables false

set_option maxRecDepth 100000 in
set_option maxHeartbeats 8000000 in
theorem one_any (aW aR aB aN : Option Addr) (nW cW nR cR nB cB nN cN : Nat) (w : World) (hB : RowsOf IsBs w aB nB) (hN : RowsOf IsN w aN nN) (hT : Tab64 w) :
    Calls Tryd.prog 4 #[.agg #[.slice aW nW cW, .slice aR nR cR, .slice aB nB cB, .slice aN nN cN]] w fun e w' => e = .returned (.bool true) ∧ Below w.heap.size w w' := by
  have HBB := hide hB
  have HN := hide hN
  have HT := hide hT
  have hnB := hB.1
  clear hB hN hT
  have HX : Hid ((w.alloc (.cells #[.slice aW nW cW, .slice aR nR cR, .slice aB nB cB, .slice aN nN cN] 27)).heap[w.heap.size]? = some (.cells #[.slice aW nW cW, .slice aR nR cR, .slice aB nB cB, .slice aN nN cN] 27 (0, 0))) := heap_alloc_new _ _
  have HB0 : Hid (Below w.heap.size w (w.alloc (.cells #[.slice aW nW cW, .slice aR nR cR, .slice aB nB cB, .slice aN nN cN] 27))) := (Below.refl _ _).alloc (Nat.le_refl _) _
  go_enter Tryd.func4, Tryd.ntmps4
  go_wp2_with fail
  generalize w.alloc (.cells #[.slice aW nW cW, .slice aR nR cR, .slice aB nB cB, .slice aN nN cN] 27) = w0 at *
  go_loopw [3, 4] (fun t3 t4 wr => ∃ all k : Nat, t3 = .int .i64 (all : Int) ∧ t4 = .int .i64 (k : Int) ∧ Hid (all ≤ 65536 ∧ k ≤ 100 ∧ Below w0.heap.size w0 wr)) (fun _ t4 _ => 100 - (intOf t4).toNat)
  case atStart => exact ⟨0, 0, rfl, rfl, by omega, by omega, Below.refl _ _⟩
  case round =>
    obtain ⟨all, k, rfl, rfl, HI⟩ := hrel
    have h0s : w.heap.size < w0.heap.size := size_lt_of_row HX.out
    have cX0 : wr.cell? ⟨w.heap.size, 0, none⟩ = some (.slice aW nW cW) := by rw [HI.out.2.2.cell (p := ⟨w.heap.size, 0, none⟩) h0s, cell_of_row _ _ _ _ _ _ HX.out]; rfl
    have cX1 : wr.cell? ⟨w.heap.size, 1, none⟩ = some (.slice aR nR cR) := by rw [HI.out.2.2.cell (p := ⟨w.heap.size, 1, none⟩) h0s, cell_of_row _ _ _ _ _ _ HX.out]; rfl
    have cX : wr.cell? ⟨w.heap.size, 2, none⟩ = some (.slice aB nB cB) := by rw [HI.out.2.2.cell (p := ⟨w.heap.size, 2, none⟩) h0s, cell_of_row _ _ _ _ _ _ HX.out]; rfl
    have cX3 : wr.cell? ⟨w.heap.size, 3, none⟩ = some (.slice aN nN cN) := by rw [HI.out.2.2.cell (p := ⟨w.heap.size, 3, none⟩) h0s, cell_of_row _ _ _ _ _ _ HX.out]; rfl
    have hk100 : k ≤ 100 := HI.out.2.1
    have hall : all ≤ 65536 := HI.out.1
    have HBw : Hid (Below w.heap.size w wr) := HB0.out.trans (HI.out.2.2.mono HB0.out.size)
    have HTw : Hid (Tab64 wr) := HT.out.below HBw.out
    by_cases h1 : k < nB
    · by_cases h2 : k < 100
      · obtain ⟨b, o, rfl, hc⟩ := HBB.out.2 (by omega)
        obtain ⟨v, hv, p, len, cap, bs, rfl, hn, hIB, hlen, h256⟩ := hc k h1
        have cV : wr.cell? ⟨b, o + k, none⟩ = some (.slice p len cap) := by rw [HBw.out.cell (p := ⟨b, o + k, none⟩) (block_lt_of_cell hv)]; exact hv
        have HIB : Hid (IsBy wr (.slice p len cap) bs) := isBy_below hIB HBw.out
        have HLEN := hide hlen
        have HB256 := hide h256
        clear hc hv hIB hlen h256
        by_cases hsum : 65536 < all + len
        · go_wp2_with fail
          refine (works_any wr HTw.out).mono ?_
          rintro e w' ⟨rfl, hB⟩
          go_wp2_with fail
          go_ret
          exact ⟨rfl, HBw.out.trans (hB.mono HBw.out.size)⟩
        · have Hsum := hide hsum
          go_wp2_with fail
          refine (n_any aW aR _ aN nW cW nR cR nB cB nN cN k wr (RowsOf.below (S := IsN) (fun h hb => IsN.below h hb) HN.out HBw.out) (by omega)).mono ?_
          rintro e w1 ⟨z, rfl, hz, B1⟩
          have HB1 : Hid (Below wr.heap.size wr w1) := B1
          have cX' : w1.cell? ⟨w.heap.size, 2, none⟩ = some (.slice (some ⟨b, o, none⟩) nB cB) := by rw [B1.cell (p := ⟨w.heap.size, 2, none⟩) (block_lt_of_cell cX)]; exact cX
          have cV' : w1.cell? ⟨b, o + k, none⟩ = some (.slice p len cap) := by rw [B1.cell (p := ⟨b, o + k, none⟩) (block_lt_of_cell cV)]; exact cV
          have HTw1 : Hid (Tab64 w1) := HTw.out.below B1
          have HIB1 : Hid (IsBy w1 (.slice p len cap) bs) := isBy_below HIB.out B1
          clear B1
          by_cases z0 : z < 0
          · have z0' : decide (z < 0) = true := decide_eq_true z0
            go_wp2_with fail
            refine (unpack64_count _ z w1 (.inl z0)).mono ?_
            rintro e w2 ⟨rfl, hw2⟩
            have hw2 := hw2.symm
            subst hw2
            go_wp2_with fail
            refine (unpack32_count _ z w1 (.inl z0)).mono ?_
            rintro e w2 ⟨rfl, hw2⟩
            have hw2 := hw2.symm
            subst hw2
            go_wp2_with fail
            refine (num_any _ _).mono ?_
            rintro e wn ⟨rfl, hwn⟩
            have hwn := hwn.symm
            subst hwn
            go_wp2_with fail
            refine (num_any _ _).mono ?_
            rintro e wn ⟨rfl, hwn⟩
            have hwn := hwn.symm
            subst hwn
            go_wp2_with fail
            refine (num_any _ _).mono ?_
            rintro e wn ⟨rfl, hwn⟩
            have hwn := hwn.symm
            subst hwn
            go_wp2_with fail
            refine (num_any _ _).mono ?_
            rintro e wn ⟨rfl, hwn⟩
            have hwn := hwn.symm
            subst hwn
            go_wp2_with fail
            go_roundw
            case rel => exact ⟨all + len, k + 1, rfl, by simp, by have := Hsum.out; omega, by omega, HI.out.2.2.trans (HB1.out.mono HI.out.2.2.size)⟩
            case measure => simp [intOf]; omega
          by_cases z1 : 4096 < z
          · have z0' : decide (z < 0) = false := by rw [decide_eq_false_iff_not]; exact z0
            go_wp2_with fail
            refine (unpack64_count _ z w1 (.inr z1)).mono ?_
            rintro e w2 ⟨rfl, hw2⟩
            have hw2 := hw2.symm
            subst hw2
            go_wp2_with fail
            refine (unpack32_count _ z w1 (.inr z1)).mono ?_
            rintro e w2 ⟨rfl, hw2⟩
            have hw2 := hw2.symm
            subst hw2
            go_wp2_with fail
            refine (num_any _ _).mono ?_
            rintro e wn ⟨rfl, hwn⟩
            have hwn := hwn.symm
            subst hwn
            go_wp2_with fail
            refine (num_any _ _).mono ?_
            rintro e wn ⟨rfl, hwn⟩
            have hwn := hwn.symm
            subst hwn
            go_wp2_with fail
            refine (num_any _ _).mono ?_
            rintro e wn ⟨rfl, hwn⟩
            have hwn := hwn.symm
            subst hwn
            go_wp2_with fail
            refine (num_any _ _).mono ?_
            rintro e wn ⟨rfl, hwn⟩
            have hwn := hwn.symm
            subst hwn
            go_wp2_with fail
            go_roundw
            case rel => exact ⟨all + len, k + 1, rfl, by simp, by have := Hsum.out; omega, by omega, HI.out.2.2.trans (HB1.out.mono HI.out.2.2.size)⟩
            case measure => simp [intOf]; omega
          obtain ⟨nn, rfl⟩ : ∃ nn : Nat, z = (nn : Int) := ⟨z.toNat, by omega⟩
          have hnn : nn ≤ 4096 := by omega
          clear z0 z1 hz
          have HBL : Hid (bs.length ≤ 1000000000000) := by have := Hsum.out; have := HLEN.out; show _ ≤ _; omega
          go_wp2_with fail
          refine (unpack64_any _ _ nn w1 HIB1.out HB256.out HBL.out hnn HTw1.out).mono ?_
          rintro e w2 hE2
          have HBw2 : Hid (Below w1.heap.size w1 w2) := by rcases hE2 with ⟨_, B, _⟩ | ⟨_, _, _, _, _, B, _⟩ <;> exact B
          have HIB2 : Hid (IsBy w2 (.slice p len cap) bs) := isBy_below HIB1.out HBw2.out
          have cXw2 : w2.cell? ⟨w.heap.size, 2, none⟩ = some (.slice (some ⟨b, o, none⟩) nB cB) := by rw [HBw2.out.cell (p := ⟨w.heap.size, 2, none⟩) (block_lt_of_cell cX')]; exact cX'
          have cVw2 : w2.cell? ⟨b, o + k, none⟩ = some (.slice p len cap) := by rw [HBw2.out.cell (p := ⟨b, o + k, none⟩) (block_lt_of_cell cV')]; exact cV'
          rcases hE2 with ⟨rfl, B2, hno2⟩ | ⟨g64, f64, rfl, hg2, U2, B2, P2, hU2⟩
          · clear B2 hno2
            go_wp2_with fail
            refine (unpack32_any _ _ nn w2 HIB2.out HB256.out HBL.out hnn (HTw1.out.below HBw2.out)).mono ?_
            rintro e w3 hE3
            have HB3' : Hid (Below w2.heap.size w2 w3) := by rcases hE3 with ⟨_, B, _⟩ | ⟨_, _, _, _, _, B, _⟩ <;> exact B
            have HBw3 : Hid (Below w1.heap.size w1 w3) := HBw2.out.trans (HB3'.out.mono HBw2.out.size)
            have cXw3 : w3.cell? ⟨w.heap.size, 2, none⟩ = some (.slice (some ⟨b, o, none⟩) nB cB) := by rw [HBw3.out.cell (p := ⟨w.heap.size, 2, none⟩) (block_lt_of_cell cX')]; exact cX'
            have cVw3 : w3.cell? ⟨b, o + k, none⟩ = some (.slice p len cap) := by rw [HBw3.out.cell (p := ⟨b, o + k, none⟩) (block_lt_of_cell cV')]; exact cV'
            rcases hE3 with ⟨rfl, B3, hno3⟩ | ⟨g32, f32, rfl, hg3, U3, B3, P3, hU3⟩
            · clear B3 hno3
              go_wp2_with fail
              refine (num_any _ _).mono ?_
              rintro e wn ⟨rfl, hwn⟩
              have hwn := hwn.symm
              subst hwn
              go_wp2_with fail
              refine (num_any _ _).mono ?_
              rintro e wn ⟨rfl, hwn⟩
              have hwn := hwn.symm
              subst hwn
              go_wp2_with fail
              refine (num_any _ _).mono ?_
              rintro e wn ⟨rfl, hwn⟩
              have hwn := hwn.symm
              subst hwn
              go_wp2_with fail
              refine (num_any _ _).mono ?_
              rintro e wn ⟨rfl, hwn⟩
              have hwn := hwn.symm
              subst hwn
              go_wp2_with fail
              go_roundw
              case rel => exact ⟨all + len, k + 1, rfl, by simp, by have := Hsum.out; omega, by omega, HI.out.2.2.trans ((HB1.out.trans (HBw3.out.mono HB1.out.size)).mono HI.out.2.2.size)⟩
              case measure => simp [intOf]; omega
            · have HP32 := hide P3
              have HU32 := hide U3
              clear B3 P3 U3 hU3
              go_wp2_with fail
              refine (num_any _ _).mono ?_
              rintro e wn ⟨rfl, hwn⟩
              have hwn := hwn.symm
              subst hwn
              go_wp2_with fail
              refine (num_any _ _).mono ?_
              rintro e wn ⟨rfl, hwn⟩
              have hwn := hwn.symm
              subst hwn
              go_wp2_with fail
              refine (num_any _ _).mono ?_
              rintro e wn ⟨rfl, hwn⟩
              have hwn := hwn.symm
              subst hwn
              go_wp2_with fail
              refine (num_any _ _).mono ?_
              rintro e wn ⟨rfl, hwn⟩
              have hwn := hwn.symm
              subst hwn
              go_wp2_with fail
              refine (pack32_ok _ nn nn f32 w3 HU32.out.urow (by omega) (by omega) HP32.out.1 (HTw1.out.below HBw3.out)).mono ?_
              rintro e w5 ⟨gp32, L32, hL32, hg32, rfl, G32, B32⟩
              have HBw5 : Hid (Below w1.heap.size w1 w5) := HBw3.out.trans (B32.mono HBw3.out.size)
              have cXw5 : w5.cell? ⟨w.heap.size, 2, none⟩ = some (.slice (some ⟨b, o, none⟩) nB cB) := by rw [HBw5.out.cell (p := ⟨w.heap.size, 2, none⟩) (block_lt_of_cell cX')]; exact cX'
              have cVw5 : w5.cell? ⟨b, o + k, none⟩ = some (.slice p len cap) := by rw [HBw5.out.cell (p := ⟨b, o + k, none⟩) (block_lt_of_cell cV')]; exact cV'
              obtain ⟨s32, hs32⟩ : ∃ s1, s1 = strOf bs := ⟨_, rfl⟩
              have v1 : ∀ N, (convert 34 9 (.slice (some ⟨gp32, 0, none⟩) L32 L32)).run Tryd.prog (w5.drewN N) = .ok (.string s32) (w5.drewN N) := fun N => by
                rw [hs32, hL32, ← HP32.out.2]; exact convert_bytes _ _ _ (isBytes_row G32)
              have v2 : ∀ N, (convert 34 9 (.slice p len cap)).run Tryd.prog (w5.drewN N) = .ok (.string s32) (w5.drewN N) := fun N => by
                rw [hs32]; exact convert_by _ _ _ (isBy_below HIB1.out (below_drewN HBw5.out N))
              have HS32 := hide hs32
              clear hs32 hL32
              have HG32 := hide G32
              clear G32
              have HB0w5 := hide B32
              clear B32
              go_wp2_with fail
              go_quiet ((go_at_call 13; exact Calls.quiet_of_same (num_any _ _)))
              go_wp2_with fail
              clear v1 v2
              go_roundw
              case rel => exact ⟨all + len, k + 1, rfl, by simp, by have := Hsum.out; omega, by omega, below_drewN (HI.out.2.2.trans ((HB1.out.trans (HBw5.out.mono HB1.out.size)).mono HI.out.2.2.size)) _⟩
              case measure => simp [intOf]; omega
          · have HP64 := hide P2
            have HU64 := hide U2
            clear B2 P2 U2 hU2
            go_wp2_with fail
            refine (unpack32_any _ _ nn w2 HIB2.out HB256.out HBL.out hnn (HTw1.out.below HBw2.out)).mono ?_
            rintro e w3 hE3
            have HB3' : Hid (Below w2.heap.size w2 w3) := by rcases hE3 with ⟨_, B, _⟩ | ⟨_, _, _, _, _, B, _⟩ <;> exact B
            have HBw3 : Hid (Below w1.heap.size w1 w3) := HBw2.out.trans (HB3'.out.mono HBw2.out.size)
            have cXw3 : w3.cell? ⟨w.heap.size, 2, none⟩ = some (.slice (some ⟨b, o, none⟩) nB cB) := by rw [HBw3.out.cell (p := ⟨w.heap.size, 2, none⟩) (block_lt_of_cell cX')]; exact cX'
            have cVw3 : w3.cell? ⟨b, o + k, none⟩ = some (.slice p len cap) := by rw [HBw3.out.cell (p := ⟨b, o + k, none⟩) (block_lt_of_cell cV')]; exact cV'
            have HU3 : Hid (UW64 w3 g64 nn nn f64) := HU64.out.ofBlock (HB3'.out.block g64 (by obtain ⟨cur, hcur, _⟩ := HU64.out.blk; exact size_lt_of_row hcur))
            rcases hE3 with ⟨rfl, B3, hno3⟩ | ⟨g32, f32, rfl, hg3, U3, B3, P3, hU3⟩
            · clear B3 hno3
              go_wp2_with fail
              refine (num_any _ _).mono ?_
              rintro e wn ⟨rfl, hwn⟩
              have hwn := hwn.symm
              subst hwn
              go_wp2_with fail
              refine (num_any _ _).mono ?_
              rintro e wn ⟨rfl, hwn⟩
              have hwn := hwn.symm
              subst hwn
              go_wp2_with fail
              refine (num_any _ _).mono ?_
              rintro e wn ⟨rfl, hwn⟩
              have hwn := hwn.symm
              subst hwn
              go_wp2_with fail
              refine (pack64_ok _ nn nn f64 w3 HU3.out.urow (by omega) (by omega) HP64.out.1 (HTw1.out.below HBw3.out)).mono ?_
              rintro e w4 ⟨gp64, L64, hL64, hg64, rfl, G64, B64⟩
              have HBw4 : Hid (Below w1.heap.size w1 w4) := HBw3.out.trans (B64.mono HBw3.out.size)
              have cXw4 : w4.cell? ⟨w.heap.size, 2, none⟩ = some (.slice (some ⟨b, o, none⟩) nB cB) := by rw [HBw4.out.cell (p := ⟨w.heap.size, 2, none⟩) (block_lt_of_cell cX')]; exact cX'
              have cVw4 : w4.cell? ⟨b, o + k, none⟩ = some (.slice p len cap) := by rw [HBw4.out.cell (p := ⟨b, o + k, none⟩) (block_lt_of_cell cV')]; exact cV'
              obtain ⟨s64, hs64⟩ : ∃ s1, s1 = strOf bs := ⟨_, rfl⟩
              have v1 : ∀ N, (convert 34 9 (.slice (some ⟨gp64, 0, none⟩) L64 L64)).run Tryd.prog (w4.drewN N) = .ok (.string s64) (w4.drewN N) := fun N => by
                rw [hs64, hL64, ← HP64.out.2]; exact convert_bytes _ _ _ (isBytes_row G64)
              have v2 : ∀ N, (convert 34 9 (.slice p len cap)).run Tryd.prog (w4.drewN N) = .ok (.string s64) (w4.drewN N) := fun N => by
                rw [hs64]; exact convert_by _ _ _ (isBy_below HIB1.out (below_drewN HBw4.out N))
              have HS64 := hide hs64
              clear hs64 hL64
              have HG64 := hide G64
              clear G64
              have HB0w4 := hide B64
              clear B64
              go_wp2_with fail
              go_quiet ((go_at_call 13; exact Calls.quiet_of_same (num_any _ _)))
              go_wp2_with fail
              clear v1 v2
              obtain ⟨wd, hwd⟩ : ∃ wd, wd = w4.drewN nq := ⟨_, rfl⟩
              rw [← hwd]
              have HBwd : Hid (Below w1.heap.size w1 wd) := by rw [hwd]; exact below_drewN HBw4.out nq
              clear hwd HB0w4 HG64 cXw4 cVw4
              have cXwd : wd.cell? ⟨w.heap.size, 2, none⟩ = some (.slice (some ⟨b, o, none⟩) nB cB) := by rw [HBwd.out.cell (p := ⟨w.heap.size, 2, none⟩) (block_lt_of_cell cX')]; exact cX'
              have cVwd : wd.cell? ⟨b, o + k, none⟩ = some (.slice p len cap) := by rw [HBwd.out.cell (p := ⟨b, o + k, none⟩) (block_lt_of_cell cV')]; exact cV'
              refine (num_any _ _).mono ?_
              rintro e wn ⟨rfl, hwn⟩
              have hwn := hwn.symm
              subst hwn
              go_wp2_with fail
              go_roundw
              case rel => exact ⟨all + len, k + 1, rfl, by simp, by have := Hsum.out; omega, by omega, HI.out.2.2.trans ((HB1.out.trans (HBwd.out.mono HB1.out.size)).mono HI.out.2.2.size)⟩
              case measure => simp [intOf]; omega
            · have HP32 := hide P3
              have HU32 := hide U3
              clear B3 P3 U3 hU3
              go_wp2_with fail
              refine (num_any _ _).mono ?_
              rintro e wn ⟨rfl, hwn⟩
              have hwn := hwn.symm
              subst hwn
              go_wp2_with fail
              refine (num_any _ _).mono ?_
              rintro e wn ⟨rfl, hwn⟩
              have hwn := hwn.symm
              subst hwn
              go_wp2_with fail
              refine (num_any _ _).mono ?_
              rintro e wn ⟨rfl, hwn⟩
              have hwn := hwn.symm
              subst hwn
              go_wp2_with fail
              refine (pack64_ok _ nn nn f64 w3 HU3.out.urow (by omega) (by omega) HP64.out.1 (HTw1.out.below HBw3.out)).mono ?_
              rintro e w4 ⟨gp64, L64, hL64, hg64, rfl, G64, B64⟩
              have HBw4 : Hid (Below w1.heap.size w1 w4) := HBw3.out.trans (B64.mono HBw3.out.size)
              have cXw4 : w4.cell? ⟨w.heap.size, 2, none⟩ = some (.slice (some ⟨b, o, none⟩) nB cB) := by rw [HBw4.out.cell (p := ⟨w.heap.size, 2, none⟩) (block_lt_of_cell cX')]; exact cX'
              have cVw4 : w4.cell? ⟨b, o + k, none⟩ = some (.slice p len cap) := by rw [HBw4.out.cell (p := ⟨b, o + k, none⟩) (block_lt_of_cell cV')]; exact cV'
              obtain ⟨s64, hs64⟩ : ∃ s1, s1 = strOf bs := ⟨_, rfl⟩
              have v1 : ∀ N, (convert 34 9 (.slice (some ⟨gp64, 0, none⟩) L64 L64)).run Tryd.prog (w4.drewN N) = .ok (.string s64) (w4.drewN N) := fun N => by
                rw [hs64, hL64, ← HP64.out.2]; exact convert_bytes _ _ _ (isBytes_row G64)
              have v2 : ∀ N, (convert 34 9 (.slice p len cap)).run Tryd.prog (w4.drewN N) = .ok (.string s64) (w4.drewN N) := fun N => by
                rw [hs64]; exact convert_by _ _ _ (isBy_below HIB1.out (below_drewN HBw4.out N))
              have HS64 := hide hs64
              clear hs64 hL64
              have HG64 := hide G64
              clear G64
              have HB0w4 := hide B64
              clear B64
              go_wp2_with fail
              go_quiet ((go_at_call 13; exact Calls.quiet_of_same (num_any _ _)))
              go_wp2_with fail
              clear v1 v2
              obtain ⟨wd, hwd⟩ : ∃ wd, wd = w4.drewN nq := ⟨_, rfl⟩
              rw [← hwd]
              have HBwd : Hid (Below w1.heap.size w1 wd) := by rw [hwd]; exact below_drewN HBw4.out nq
              have HU32 : Hid (UW32 wd g32 nn nn f32) := by
                have := HU32.out.ofBlock (HB0w4.out.block g32 (by obtain ⟨cur, hcur, _⟩ := HU32.out.blk; exact size_lt_of_row hcur))
                rw [hwd]; exact ⟨this.cell, this.fz, this.blk⟩
              clear hwd HB0w4 HG64 cXw4 cVw4
              have cXwd : wd.cell? ⟨w.heap.size, 2, none⟩ = some (.slice (some ⟨b, o, none⟩) nB cB) := by rw [HBwd.out.cell (p := ⟨w.heap.size, 2, none⟩) (block_lt_of_cell cX')]; exact cX'
              have cVwd : wd.cell? ⟨b, o + k, none⟩ = some (.slice p len cap) := by rw [HBwd.out.cell (p := ⟨b, o + k, none⟩) (block_lt_of_cell cV')]; exact cV'
              refine (num_any _ _).mono ?_
              rintro e wn ⟨rfl, hwn⟩
              have hwn := hwn.symm
              subst hwn
              go_wp2_with fail
              refine (pack32_ok _ nn nn f32 wd HU32.out.urow (by omega) (by omega) HP32.out.1 (HTw1.out.below HBwd.out)).mono ?_
              rintro e w5 ⟨gp32, L32, hL32, hg32, rfl, G32, B32⟩
              have HBw5 : Hid (Below w1.heap.size w1 w5) := HBwd.out.trans (B32.mono HBwd.out.size)
              have cXw5 : w5.cell? ⟨w.heap.size, 2, none⟩ = some (.slice (some ⟨b, o, none⟩) nB cB) := by rw [HBw5.out.cell (p := ⟨w.heap.size, 2, none⟩) (block_lt_of_cell cX')]; exact cX'
              have cVw5 : w5.cell? ⟨b, o + k, none⟩ = some (.slice p len cap) := by rw [HBw5.out.cell (p := ⟨b, o + k, none⟩) (block_lt_of_cell cV')]; exact cV'
              obtain ⟨s32, hs32⟩ : ∃ s1, s1 = strOf bs := ⟨_, rfl⟩
              have v1 : ∀ N, (convert 34 9 (.slice (some ⟨gp32, 0, none⟩) L32 L32)).run Tryd.prog (w5.drewN N) = .ok (.string s32) (w5.drewN N) := fun N => by
                rw [hs32, hL32, ← HP32.out.2]; exact convert_bytes _ _ _ (isBytes_row G32)
              have v2 : ∀ N, (convert 34 9 (.slice p len cap)).run Tryd.prog (w5.drewN N) = .ok (.string s32) (w5.drewN N) := fun N => by
                rw [hs32]; exact convert_by _ _ _ (isBy_below HIB1.out (below_drewN HBw5.out N))
              have HS32 := hide hs32
              clear hs32 hL32
              have HG32 := hide G32
              clear G32
              have HB0w5 := hide B32
              clear B32
              go_wp2_with fail
              go_quiet ((go_at_call 13; exact Calls.quiet_of_same (num_any _ _)))
              go_wp2_with fail
              clear v1 v2
              go_roundw
              case rel => exact ⟨all + len, k + 1, rfl, by simp, by have := Hsum.out; omega, by omega, below_drewN (HI.out.2.2.trans ((HB1.out.trans (HBw5.out.mono HB1.out.size)).mono HI.out.2.2.size)) _⟩
              case measure => simp [intOf]; omega
      · go_wp2_with fail
        refine (works_any wr HTw.out).mono ?_
        rintro e w' ⟨rfl, hB⟩
        go_wp2_with fail
        go_ret
        exact ⟨rfl, HBw.out.trans (hB.mono HBw.out.size)⟩
    · go_wp2_with fail
      refine (works_any wr HTw.out).mono ?_
      rintro e w' ⟨rfl, hB⟩
      go_wp2_with fail
      go_ret
      exact ⟨rfl, HBw.out.trans (hB.mono HBw.out.size)⟩

end Go.Proofs.YtenhippcjnemcaaDoor

/- TimesOne: the walk. -/
import Derived.Test.YthdolmhbmbgdpaaT1P
namespace Go.Proofs.Ythdolmhbmbgdpaa
open Go.RowKit
open M
set_option linter.unusedVariables false

/-- A slice of bytes that a machine can hold. -/
def IsBs (w : World) (v : Value) : Prop := ∃ p n cap bs, v = .slice p n cap ∧ n ≤ 140737488355328 ∧ IsBy w (.slice p n cap) bs ∧ bs.length = n ∧ ∀ x ∈ bs, x < 256

set_option maxRecDepth 100000 in
set_option maxHeartbeats 8000000 in
theorem one_any (aL aB aN : Option Addr) (nL cL nB cB nN cN : Nat) (w : World) (hB : RowsOf IsBs w aB nB) (hN : RowsOf IsN w aN nN) :
    Calls Try.prog 4 #[.agg #[.slice aL nL cL, .slice aB nB cB, .slice aN nN cN]] w fun e w' => e = .returned (.bool true) ∧ Below w.heap.size w w' := by
  have HBB := hide hB
  have HN := hide hN
  have hnB := hB.1
  have hnN := hN.1
  clear hB hN
  have HX : Hid ((w.alloc (.cells #[.slice aL nL cL, .slice aB nB cB, .slice aN nN cN] 26)).heap[w.heap.size]? = some (.cells #[.slice aL nL cL, .slice aB nB cB, .slice aN nN cN] 26 (0, 0))) := heap_alloc_new _ _
  have HB0 : Hid (Below w.heap.size w (w.alloc (.cells #[.slice aL nL cL, .slice aB nB cB, .slice aN nN cN] 26))) := (Below.refl _ _).alloc (Nat.le_refl _) _
  go_enter Try.func4, Try.ntmps4
  go_wp2_with fail
  generalize w.alloc (.cells #[.slice aL nL cL, .slice aB nB cB, .slice aN nN cN] 26) = w0 at *
  go_loopw [3, 4] (fun t3 t4 wr => ∃ all k : Nat, t3 = .int .i64 (all : Int) ∧ t4 = .int .i64 (k : Int) ∧ Hid (all ≤ 131072 ∧ k ≤ 100 ∧ Below w0.heap.size w0 wr)) (fun _ t4 _ => 100 - (intOf t4).toNat)
  case atStart => exact ⟨0, 0, rfl, rfl, by omega, by omega, Below.refl _ _⟩
  case round =>
    obtain ⟨all, k, rfl, rfl, HI⟩ := hrel
    have h0s : w.heap.size < w0.heap.size := size_lt_of_row HX.out
    have cX : wr.cell? ⟨w.heap.size, 1, none⟩ = some (.slice aB nB cB) := by rw [HI.out.2.2.cell (p := ⟨w.heap.size, 1, none⟩) h0s, cell_of_row _ _ _ _ _ _ HX.out]; rfl
    have cY : wr.cell? ⟨w.heap.size, 2, none⟩ = some (.slice aN nN cN) := by rw [HI.out.2.2.cell (p := ⟨w.heap.size, 2, none⟩) h0s, cell_of_row _ _ _ _ _ _ HX.out]; rfl
    have hk100 : k ≤ 100 := HI.out.2.1
    have hall : all ≤ 131072 := HI.out.1
    have HBw : Hid (Below w.heap.size w wr) := HB0.out.trans (HI.out.2.2.mono HB0.out.size)
    by_cases h1 : k < nB
    · by_cases h2 : k < 100
      · obtain ⟨b, o, rfl, hc⟩ := HBB.out.2 (by omega)
        obtain ⟨v, hv, p, len, cap, bs, rfl, hn, hT, hlen, h256⟩ := hc k h1
        have cV : wr.cell? ⟨b, o + k, none⟩ = some (.slice p len cap) := by rw [HBw.out.cell (p := ⟨b, o + k, none⟩) (block_lt_of_cell hv)]; exact hv
        have HIB : Hid (IsBy wr (.slice p len cap) bs) := isBy_below hT HBw.out
        have HLEN := hide hlen
        have HB256 := hide h256
        clear hc hv hT hlen h256
        by_cases hsum : 131072 < all + len
        · go_wp2_with fail
          refine (works_any wr).mono ?_
          rintro e w' ⟨rfl, hB⟩
          go_wp2_with fail
          go_ret
          exact ⟨rfl, HBw.out.trans (hB.mono HBw.out.size)⟩
        · have Hsum := hide hsum
          by_cases hkN : k < nN
          · obtain ⟨nb, no, rfl, hcN⟩ := HN.out.2 (by omega)
            obtain ⟨vz, hvz, z, rfl, hz⟩ := hcN k hkN
            have cN1 : wr.cell? ⟨nb, no + k, none⟩ = some (.int .i64 z) := by rw [HBw.out.cell (p := ⟨nb, no + k, none⟩) (block_lt_of_cell hvz)]; exact hvz
            clear hcN hvz
            by_cases z0 : z < 0
            · go_wp2_with fail
              refine (unpack_count _ z wr (.inl z0)).mono ?_
              rintro e w2 ⟨rfl, rfl⟩
              go_wp2_with fail
              refine (num_any _ _).mono ?_
              rintro e w3 ⟨rfl, rfl⟩
              go_wp2_with fail
              refine (num_any _ _).mono ?_
              rintro e w3 ⟨rfl, rfl⟩
              go_wp2_with fail
              go_roundw
              case rel => exact ⟨all + len, k + 1, rfl, by simp, by have := Hsum.out; omega, by omega, HI.out.2.2⟩
              case measure => simp [intOf]; omega
            by_cases z1 : 4096 < z
            · have z0' : decide (z < 0) = false := by rw [decide_eq_false_iff_not]; exact z0
              go_wp2_with fail
              refine (unpack_count _ z wr (.inr z1)).mono ?_
              rintro e w2 ⟨rfl, rfl⟩
              go_wp2_with fail
              refine (num_any _ _).mono ?_
              rintro e w3 ⟨rfl, rfl⟩
              go_wp2_with fail
              refine (num_any _ _).mono ?_
              rintro e w3 ⟨rfl, rfl⟩
              go_wp2_with fail
              go_roundw
              case rel => exact ⟨all + len, k + 1, rfl, by simp, by have := Hsum.out; omega, by omega, HI.out.2.2⟩
              case measure => simp [intOf]; omega
            obtain ⟨nn, rfl⟩ : ∃ nn : Nat, z = (nn : Int) := ⟨z.toNat, by omega⟩
            have hnn : nn ≤ 4096 := by omega
            clear z0 z1 hz
            go_wp2_with fail
            refine (unpack_any _ _ nn wr HIB.out HB256.out (by rw [HLEN.out]; have := Hsum.out; omega) (by omega)).mono ?_
            rintro e w2 (⟨rfl, B2, hno⟩ | ⟨g, f, rfl, hg, R2, B2, P2, hU⟩)
            · have HB2 := hide B2
              clear B2 hno
              go_wp2_with fail
              refine (num_any _ _).mono ?_
              rintro e w3 ⟨rfl, rfl⟩
              go_wp2_with fail
              refine (num_any _ _).mono ?_
              rintro e w3 ⟨rfl, rfl⟩
              go_wp2_with fail
              go_roundw
              case rel => exact ⟨all + len, k + 1, rfl, by simp, by have := Hsum.out; omega, by omega, HI.out.2.2.trans (HB2.out.mono HI.out.2.2.size)⟩
              case measure => simp [intOf]; omega
            · have HB2 := hide B2
              have HP2 := hide P2
              have HR2 := hide R2
              clear B2 P2 R2 hU
              go_wp2_with fail
              refine (num_any _ _).mono ?_
              rintro e w3 ⟨rfl, rfl⟩
              go_wp2_with fail
              refine (pack_ok _ nn nn f w3 HR2.out (by omega) HP2.out.1 HP2.out.2.1).mono ?_
              rintro e w4 ⟨g4, L4, hL4, hg4, rfl, G4, B4⟩
              have HB4 : Hid (Below wr.heap.size wr w4) := HB2.out.trans (B4.mono HB2.out.size)
              have HR4 : Hid (TRow w4 (some ⟨g, 0, none⟩) nn f) := HR2.out.below B4
              obtain ⟨s1, hs1⟩ : ∃ s1, s1 = strOf bs := ⟨_, rfl⟩
              have v1 : ∀ N, (convert 28 9 (.slice (some ⟨g4, 0, none⟩) L4 L4)).run Try.prog (w4.drewN N) = .ok (.string s1) (w4.drewN N) := fun N => by
                rw [hs1, hL4, ← HP2.out.2.2]; exact convert_bytes _ _ _ (isBytes_row G4)
              have v2 : ∀ N, (convert 28 9 (.slice p len cap)).run Try.prog (w4.drewN N) = .ok (.string s1) (w4.drewN N) := fun N => by
                rw [hs1]; exact convert_by _ _ _ (isBy_below HIB.out (below_drewN HB4.out N))
              have cX4 : w4.cell? ⟨w.heap.size, 1, none⟩ = some (.slice (some ⟨b, o, none⟩) nB cB) := by rw [HB4.out.cell (p := ⟨w.heap.size, 1, none⟩) (block_lt_of_cell cX)]; exact cX
              have cV4 : w4.cell? ⟨b, o + k, none⟩ = some (.slice p len cap) := by rw [HB4.out.cell (p := ⟨b, o + k, none⟩) (block_lt_of_cell cV)]; exact cV
              have HQ : Hid (∀ N, Calls Try.prog 9 #[.slice (some ⟨g, 0, none⟩) nn nn] (w4.drewN N) fun e w' => e = .returned (.bool true) ∧ ∃ n, w' = w4.drewN n) := fun N =>
                (rising_any _ nn nn f (w4.drewN N) HR4.out (by omega)).mono fun e w' ⟨v, h1, h2, m, h3⟩ => ⟨by rw [h1, h2.2 HP2.out.2.1], N + m, by rw [h3, World.drewN_drewN]⟩
              have HS1 := hide hs1
              clear hs1 hL4 G4 B4 cX cV
              go_wp2_with fail
              go_quiet (first | (go_at_call 10; exact Calls.quiet_of_same (num_any _ _)) | (go_at_call 9; exact HQ.out _))
              go_wp2_with fail
              go_roundw
              case rel => exact ⟨all + len, k + 1, rfl, by simp, by have := Hsum.out; omega, by omega, below_drewN (HI.out.2.2.trans (HB4.out.mono HI.out.2.2.size)) _⟩
              case measure => simp [intOf]; omega
          · go_wp2_with fail
            refine (unpack_any _ _ 0 wr HIB.out HB256.out (by rw [HLEN.out]; have := Hsum.out; omega) (by omega)).mono ?_
            rintro e w2 (⟨rfl, B2, hno⟩ | ⟨g, f, rfl, hg, R2, B2, P2, hU⟩)
            · have HB2 := hide B2
              clear B2 hno
              go_wp2_with fail
              refine (num_any _ _).mono ?_
              rintro e w3 ⟨rfl, rfl⟩
              go_wp2_with fail
              refine (num_any _ _).mono ?_
              rintro e w3 ⟨rfl, rfl⟩
              go_wp2_with fail
              go_roundw
              case rel => exact ⟨all + len, k + 1, rfl, by simp, by have := Hsum.out; omega, by omega, HI.out.2.2.trans (HB2.out.mono HI.out.2.2.size)⟩
              case measure => simp [intOf]; omega
            · have HB2 := hide B2
              have HP2 := hide P2
              have HR2 := hide R2
              clear B2 P2 R2 hU
              go_wp2_with fail
              refine (num_any _ _).mono ?_
              rintro e w3 ⟨rfl, rfl⟩
              go_wp2_with fail
              refine (pack_ok _ 0 0 f w3 HR2.out (by omega) HP2.out.1 HP2.out.2.1).mono ?_
              rintro e w4 ⟨g4, L4, hL4, hg4, rfl, G4, B4⟩
              have HB4 : Hid (Below wr.heap.size wr w4) := HB2.out.trans (B4.mono HB2.out.size)
              have HR4 : Hid (TRow w4 (some ⟨g, 0, none⟩) 0 f) := HR2.out.below B4
              obtain ⟨s1, hs1⟩ : ∃ s1, s1 = strOf bs := ⟨_, rfl⟩
              have v1 : ∀ N, (convert 28 9 (.slice (some ⟨g4, 0, none⟩) L4 L4)).run Try.prog (w4.drewN N) = .ok (.string s1) (w4.drewN N) := fun N => by
                rw [hs1, hL4, ← HP2.out.2.2]; exact convert_bytes _ _ _ (isBytes_row G4)
              have v2 : ∀ N, (convert 28 9 (.slice p len cap)).run Try.prog (w4.drewN N) = .ok (.string s1) (w4.drewN N) := fun N => by
                rw [hs1]; exact convert_by _ _ _ (isBy_below HIB.out (below_drewN HB4.out N))
              have cX4 : w4.cell? ⟨w.heap.size, 1, none⟩ = some (.slice (some ⟨b, o, none⟩) nB cB) := by rw [HB4.out.cell (p := ⟨w.heap.size, 1, none⟩) (block_lt_of_cell cX)]; exact cX
              have cV4 : w4.cell? ⟨b, o + k, none⟩ = some (.slice p len cap) := by rw [HB4.out.cell (p := ⟨b, o + k, none⟩) (block_lt_of_cell cV)]; exact cV
              have HQ : Hid (∀ N, Calls Try.prog 9 #[.slice (some ⟨g, 0, none⟩) 0 0] (w4.drewN N) fun e w' => e = .returned (.bool true) ∧ ∃ n, w' = w4.drewN n) := fun N =>
                (rising_any _ 0 0 f (w4.drewN N) HR4.out (by omega)).mono fun e w' ⟨v, h1, h2, m, h3⟩ => ⟨by rw [h1, h2.2 HP2.out.2.1], N + m, by rw [h3, World.drewN_drewN]⟩
              have HS1 := hide hs1
              clear hs1 hL4 G4 B4 cX cV
              go_wp2_with fail
              go_quiet (first | (go_at_call 10; exact Calls.quiet_of_same (num_any _ _)) | (go_at_call 9; exact HQ.out _))
              go_wp2_with fail
              go_roundw
              case rel => exact ⟨all + len, k + 1, rfl, by simp, by have := Hsum.out; omega, by omega, below_drewN (HI.out.2.2.trans (HB4.out.mono HI.out.2.2.size)) _⟩
              case measure => simp [intOf]; omega
      · go_wp2_with fail
        refine (works_any wr).mono ?_
        rintro e w' ⟨rfl, hB⟩
        go_wp2_with fail
        go_ret
        exact ⟨rfl, HBw.out.trans (hB.mono HBw.out.size)⟩
    · go_wp2_with fail
      refine (works_any wr).mono ?_
      rintro e w' ⟨rfl, hB⟩
      go_wp2_with fail
      go_ret
      exact ⟨rfl, HBw.out.trans (hB.mono HBw.out.size)⟩

end Go.Proofs.Ythdolmhbmbgdpaa

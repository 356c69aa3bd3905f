/-
  PROVED HERE: fathomlaw1.BitsOrder returns true for every list of numbers of 64 bits, and leaves the list as it was; no condition beside the row's own.
  (The frame round the walk was written by the kit's proof-skeleton.mjs; the walk is mine.)
-/
import Derived.Test.YtpiiagjfimdflaaRows
import Derived.Test.YtpiiagjfimdflaaV
import Derived.WalkKit
import Derived.ProofKit
import Derived.OpenShut
import Derived.ShutString
import Derived.ChangeOld
import Derived.Below
namespace Go.Proofs.Ytpiiagjfimdflaa.bitsOrder
open Go.ChangeShapes Go.WideShapes Go.ChangeAt Go.RowKit
open Go.ChangeMaps (open_string shut_string)
open M
set_option linter.unusedVariables false

theorem own : ownKnob Try.prog.godebug = none := by kernel_rfl
theorem laidOut : laidOutB Try.prog = true := by kernel_rfl

/-- WHAT THE WALK IS TOLD OF A SLICE OF INTEGERS THAT CAME IN: it is nil; or it leads to a row of 'cap' cells, the numbers 'zs' (the first 'len' are its elements, the rest its spare room), each fitting its kind. -/
def IsRow (k : IntKind) (w : World) (a : Option Addr) (len cap : Nat) (zs : List Int) : Prop :=
  (a = none ∧ len = 0 ∧ cap = 0 ∧ zs = []) ∨
  ∃ x, a = some x ∧ len ≤ cap ∧ cap ≤ maxLen ∧ zs.length = cap ∧ (∀ i, i < zs.length → w.cell? (x.add i) = some (.int k (zs.getD i 0))) ∧ ∀ n ∈ zs, (Lit.int k n).wf = true

/-! ### STEP 1: THE WALK: the Go text returns true, AND WRITES NOTHING THAT WAS THERE: 'Below w.heap.size w w'' (Derived/Below.lean: '.refl', '.alloc', '.drew', '.setCell' at a new block, '.trans'). Open each 'IsRow' by 'rcases' AHEAD of 'go_enter'; part every test ahead of the walk. -/
set_option maxRecDepth 100000 in
set_option maxHeartbeats 4000000 in
theorem walk_some (b off len cap : Nat) (f : Nat → Nat) (w : World) (hc : ∀ i, i < len → w.cell? ⟨b, off + i, none⟩ = some (.int .u64 (f i : Int))) (hf : ∀ i, i < len → f i < 18446744073709551616) (hlen : len ≤ 9223372036854775807) (hb : 0 < len → b < w.heap.size) :
    Calls Try.prog 7 #[.slice (some ⟨b, off, none⟩) len cap] w fun e w' => e = .returned (.bool true) ∧ Below w.heap.size w w' := by
  have HC : Hid (∀ i, i < len → w.cell? ⟨b, off + i, none⟩ = some (.int .u64 (f i : Int))) := hc
  clear hc
  go_enter Try.func7, Try.ntmps7
  go_wp2
  go_loopw [3] (fun t wr => ∃ k : Nat, 1 ≤ k ∧ k ≤ 1000 ∧ t = .int .i64 k ∧ Hid (Below w.heap.size w wr)) (fun t _ => 1000 - (intOf t).toNat)
  case atStart => exact ⟨1, by omega, by omega, rfl, Below.refl _ _⟩
  case round =>
    obtain ⟨k, hk1, hk2, rfl, hB⟩ := hrel
    by_cases hlt : k < len ∧ k < 1000
    · obtain ⟨hl1, hl2⟩ := hlt
      have hbw := hb (by omega)
      have c1 : wr.cell? ⟨b, off + k, none⟩ = some (.int .u64 (f k : Int)) := (hB.out.cell (p := ⟨b, off + k, none⟩) hbw).trans (HC.out k hl1)
      have c0 : wr.cell? ⟨b, off + (k - 1), none⟩ = some (.int .u64 (f (k - 1) : Int)) := (hB.out.cell (p := ⟨b, off + (k - 1), none⟩) hbw).trans (HC.out (k - 1) (by omega))
      have f1 := hf k hl1
      have f0 := hf (k - 1) (by omega)
      generalize f k = y at *
      generalize f (k - 1) = x at *
      obtain ⟨k', hk'⟩ : ∃ k' : Nat, (k : Int) - 1 = (k' : Int) := ⟨k - 1, by omega⟩
      have hkk : k - 1 = k' := by omega
      rw [hkk] at c0
      have hk'l : k' < len := by omega
      clear hkk
      by_cases hsw : y < x
      · obtain ⟨h, hh⟩ : ∃ h : Nat, (y : Int) / 2 = (h : Int) := ⟨y / 2, by omega⟩
        obtain ⟨h2, hh2⟩ : ∃ h2 : Nat, (h : Int) * 2 = (h2 : Int) := ⟨h * 2, by omega⟩
        have hhb : h < 9223372036854775808 := by omega
        have hh2b : h2 < 18446744073709551616 := by omega
        go_wp2_with fail
        have F := four_new wr
        have S4 : (((wr.alloc (.cells Try.zeroCells27 27)).alloc (.cells Try.zeroCells27 27)).alloc (.cells Try.zeroCells27 27)).alloc (.cells Try.zeroCells27 27) = (((wr.alloc (.cells Try.zeroCells27 27)).alloc (.cells Try.zeroCells27 27)).alloc (.cells Try.zeroCells27 27)).alloc (.cells Try.zeroCells27 27) := rfl
        generalize (((wr.alloc (.cells Try.zeroCells27 27)).alloc (.cells Try.zeroCells27 27)).alloc (.cells Try.zeroCells27 27)).alloc (.cells Try.zeroCells27 27) = w0 at *
        clear S4
        obtain ⟨V0, W0, X0, Y0, s0, B0⟩ := F
        refine (wvar_any wr.heap.size 0 (wr.heap.size + 4) y w0 [] V0 (by omega) s0 (by simp) (by omega)).mono ?_
        rintro e w1 ⟨rfl, V1, O1⟩
        have W1 := W0.other O1 (by omega) (by omega)
        have X1 := X0.other O1 (by omega) (by omega)
        have Y1 := Y0.other O1 (by omega) (by omega)
        have s1 := Nat.le_trans s0 O1.size
        have B1 := B0.trans (O1.below (Nat.le_refl _) (by omega))
        clear V0 W0 X0 Y0 s0 B0 O1
        go_wp2_with fail
        refine (wvar_any (wr.heap.size + 1) 0 (wr.heap.size + 4) x w1 [] W1 (by omega) s1 (by simp) (by omega)).mono ?_
        rintro e w2 ⟨rfl, W2, O2⟩
        have V2 := V1.other O2 (by omega) (by omega)
        have X2 := X1.other O2 (by omega) (by omega)
        have Y2 := Y1.other O2 (by omega) (by omega)
        have s2 := Nat.le_trans s1 O2.size
        have B2 := B1.trans (O2.below (by omega : wr.heap.size ≤ wr.heap.size + 1) (by omega))
        clear V1 W1 X1 Y1 s1 B1 O2
        go_wp2_with fail
        refine (wzig_any (wr.heap.size + 2) 0 (wr.heap.size + 4) (h : Int) w2 [] X2 (by omega) s2 (by simp) (by omega) (by omega)).mono ?_
        rintro e w3 ⟨rfl, X3, O3⟩
        have V3 := V2.other O3 (by omega) (by omega)
        have W3 := W2.other O3 (by omega) (by omega)
        have Y3 := Y2.other O3 (by omega) (by omega)
        have s3 := Nat.le_trans s2 O3.size
        have B3 := B2.trans (O3.below (by omega : wr.heap.size ≤ wr.heap.size + 2) (by omega))
        clear V2 W2 X2 Y2 s2 B2 O3
        go_wp2_with fail
        refine (wvar_any (wr.heap.size + 3) 0 (wr.heap.size + 4) h2 w3 [] Y3 (by omega) s3 (by simp) (by omega)).mono ?_
        rintro e w4 ⟨rfl, Y4, O4⟩
        have V4 := V3.other O4 (by omega) (by omega)
        have W4 := W3.other O4 (by omega) (by omega)
        have X4 := X3.other O4 (by omega) (by omega)
        have s4 := Nat.le_trans s3 O4.size
        have B4 := B3.trans (O4.below (by omega : wr.heap.size ≤ wr.heap.size + 3) (by omega))
        clear V3 W3 X3 Y3 s3 B3 O4
        have LV := V4.lenCell
        have LW := W4.lenCell
        have LX := X4.lenCell
        have LY := Y4.lenCell
        simp only [List.nil_append] at LV LW LX LY
        have HB : Hid (Below w.heap.size w w4) := hB.out.trans (B4.mono hB.out.size)
        clear V4 W4 X4 Y4 s4 B4
        have hm1 := varB_mono y x (by omega)
        have hm2 := varB_mod y
        have hm3 := varB_ge y
        have hm4 := varB_le x
        have hz : zig (h : Int) = h2 := by unfold zig; rw [if_neg (by omega)]; omega
        rw [hz] at LX
        generalize (varB y).length = la at *
        generalize (varB x).length = lb at *
        generalize (varB h2).length = lx at *
        have t1 : ¬ (lb : Int) < (la : Int) := by omega
        have t2 : ((la : Int) % 8 != 0) = false := by rw [bne_eq_false_iff_eq]; omega
        have t3 : ¬ (la : Int) < 8 := by omega
        have t4 : ¬ (80 : Int) < (lb : Int) := by omega
        clear hm1 hm2 hm3 hm4 hz
        go_wp2_with fail
        refine (wlen_any wr.heap.size 0 la _ LV).mono ?_
        rintro e w5 ⟨rfl, rfl⟩
        go_wp2_with fail
        refine (wlen_any (wr.heap.size + 1) 0 lb _ LW).mono ?_
        rintro e w5 ⟨rfl, rfl⟩
        go_wp2_with fail
        refine (wlen_any wr.heap.size 0 la _ LV).mono ?_
        rintro e w5 ⟨rfl, rfl⟩
        go_wp2_with fail
        refine (wlen_any wr.heap.size 0 la _ LV).mono ?_
        rintro e w5 ⟨rfl, rfl⟩
        go_wp2_with fail
        refine (wlen_any (wr.heap.size + 1) 0 lb _ LW).mono ?_
        rintro e w5 ⟨rfl, rfl⟩
        go_wp2_with fail
        refine (wlen_any (wr.heap.size + 2) 0 lx _ LX).mono ?_
        rintro e w5 ⟨rfl, rfl⟩
        go_wp2_with fail
        refine (wlen_any (wr.heap.size + 3) 0 lx _ LY).mono ?_
        rintro e w5 ⟨rfl, rfl⟩
        go_wp2_with fail
        refine ⟨⟨k + 1, by omega, by omega, by go_num, HB⟩, by simp [intOf]; omega⟩

      · obtain ⟨h, hh⟩ : ∃ h : Nat, (x : Int) / 2 = (h : Int) := ⟨x / 2, by omega⟩
        obtain ⟨h2, hh2⟩ : ∃ h2 : Nat, (h : Int) * 2 = (h2 : Int) := ⟨h * 2, by omega⟩
        have hhb : h < 9223372036854775808 := by omega
        have hh2b : h2 < 18446744073709551616 := by omega
        go_wp2_with fail
        have F := four_new wr
        have S4 : (((wr.alloc (.cells Try.zeroCells27 27)).alloc (.cells Try.zeroCells27 27)).alloc (.cells Try.zeroCells27 27)).alloc (.cells Try.zeroCells27 27) = (((wr.alloc (.cells Try.zeroCells27 27)).alloc (.cells Try.zeroCells27 27)).alloc (.cells Try.zeroCells27 27)).alloc (.cells Try.zeroCells27 27) := rfl
        generalize (((wr.alloc (.cells Try.zeroCells27 27)).alloc (.cells Try.zeroCells27 27)).alloc (.cells Try.zeroCells27 27)).alloc (.cells Try.zeroCells27 27) = w0 at *
        clear S4
        obtain ⟨V0, W0, X0, Y0, s0, B0⟩ := F
        refine (wvar_any wr.heap.size 0 (wr.heap.size + 4) x w0 [] V0 (by omega) s0 (by simp) (by omega)).mono ?_
        rintro e w1 ⟨rfl, V1, O1⟩
        have W1 := W0.other O1 (by omega) (by omega)
        have X1 := X0.other O1 (by omega) (by omega)
        have Y1 := Y0.other O1 (by omega) (by omega)
        have s1 := Nat.le_trans s0 O1.size
        have B1 := B0.trans (O1.below (Nat.le_refl _) (by omega))
        clear V0 W0 X0 Y0 s0 B0 O1
        go_wp2_with fail
        refine (wvar_any (wr.heap.size + 1) 0 (wr.heap.size + 4) y w1 [] W1 (by omega) s1 (by simp) (by omega)).mono ?_
        rintro e w2 ⟨rfl, W2, O2⟩
        have V2 := V1.other O2 (by omega) (by omega)
        have X2 := X1.other O2 (by omega) (by omega)
        have Y2 := Y1.other O2 (by omega) (by omega)
        have s2 := Nat.le_trans s1 O2.size
        have B2 := B1.trans (O2.below (by omega : wr.heap.size ≤ wr.heap.size + 1) (by omega))
        clear V1 W1 X1 Y1 s1 B1 O2
        go_wp2_with fail
        refine (wzig_any (wr.heap.size + 2) 0 (wr.heap.size + 4) (h : Int) w2 [] X2 (by omega) s2 (by simp) (by omega) (by omega)).mono ?_
        rintro e w3 ⟨rfl, X3, O3⟩
        have V3 := V2.other O3 (by omega) (by omega)
        have W3 := W2.other O3 (by omega) (by omega)
        have Y3 := Y2.other O3 (by omega) (by omega)
        have s3 := Nat.le_trans s2 O3.size
        have B3 := B2.trans (O3.below (by omega : wr.heap.size ≤ wr.heap.size + 2) (by omega))
        clear V2 W2 X2 Y2 s2 B2 O3
        go_wp2_with fail
        refine (wvar_any (wr.heap.size + 3) 0 (wr.heap.size + 4) h2 w3 [] Y3 (by omega) s3 (by simp) (by omega)).mono ?_
        rintro e w4 ⟨rfl, Y4, O4⟩
        have V4 := V3.other O4 (by omega) (by omega)
        have W4 := W3.other O4 (by omega) (by omega)
        have X4 := X3.other O4 (by omega) (by omega)
        have s4 := Nat.le_trans s3 O4.size
        have B4 := B3.trans (O4.below (by omega : wr.heap.size ≤ wr.heap.size + 3) (by omega))
        clear V3 W3 X3 Y3 s3 B3 O4
        have LV := V4.lenCell
        have LW := W4.lenCell
        have LX := X4.lenCell
        have LY := Y4.lenCell
        simp only [List.nil_append] at LV LW LX LY
        have HB : Hid (Below w.heap.size w w4) := hB.out.trans (B4.mono hB.out.size)
        clear V4 W4 X4 Y4 s4 B4
        have hm1 := varB_mono x y (by omega)
        have hm2 := varB_mod x
        have hm3 := varB_ge x
        have hm4 := varB_le y
        have hz : zig (h : Int) = h2 := by unfold zig; rw [if_neg (by omega)]; omega
        rw [hz] at LX
        generalize (varB x).length = la at *
        generalize (varB y).length = lb at *
        generalize (varB h2).length = lx at *
        have t1 : ¬ (lb : Int) < (la : Int) := by omega
        have t2 : ((la : Int) % 8 != 0) = false := by rw [bne_eq_false_iff_eq]; omega
        have t3 : ¬ (la : Int) < 8 := by omega
        have t4 : ¬ (80 : Int) < (lb : Int) := by omega
        clear hm1 hm2 hm3 hm4 hz
        go_wp2_with fail
        refine (wlen_any wr.heap.size 0 la _ LV).mono ?_
        rintro e w5 ⟨rfl, rfl⟩
        go_wp2_with fail
        refine (wlen_any (wr.heap.size + 1) 0 lb _ LW).mono ?_
        rintro e w5 ⟨rfl, rfl⟩
        go_wp2_with fail
        refine (wlen_any wr.heap.size 0 la _ LV).mono ?_
        rintro e w5 ⟨rfl, rfl⟩
        go_wp2_with fail
        refine (wlen_any wr.heap.size 0 la _ LV).mono ?_
        rintro e w5 ⟨rfl, rfl⟩
        go_wp2_with fail
        refine (wlen_any (wr.heap.size + 1) 0 lb _ LW).mono ?_
        rintro e w5 ⟨rfl, rfl⟩
        go_wp2_with fail
        refine (wlen_any (wr.heap.size + 2) 0 lx _ LX).mono ?_
        rintro e w5 ⟨rfl, rfl⟩
        go_wp2_with fail
        refine (wlen_any (wr.heap.size + 3) 0 lx _ LY).mono ?_
        rintro e w5 ⟨rfl, rfl⟩
        go_wp2_with fail
        refine ⟨⟨k + 1, by omega, by omega, by go_num, HB⟩, by simp [intOf]; omega⟩

    · by_cases hl1 : k < len
      · have hl2 : ¬ k < 1000 := by omega
        go_wp2_with fail
        refine (works_any wr).mono ?_
        rintro e w5 ⟨rfl, B5⟩
        go_wp2_with fail
        go_ret
        exact ⟨rfl, hB.out.trans (B5.mono hB.out.size)⟩
      · go_wp2_with fail
        refine (works_any wr).mono ?_
        rintro e w5 ⟨rfl, B5⟩
        go_wp2_with fail
        go_ret
        exact ⟨rfl, hB.out.trans (B5.mono hB.out.size)⟩

theorem walk_zero (a : Option Addr) (cap : Nat) (w : World) : Calls Try.prog 7 #[.slice a 0 cap] w fun e w' => e = .returned (.bool true) ∧ Below w.heap.size w w' := by
  go_enter Try.func7, Try.ntmps7
  go_wp2
  go_loopw [3] (fun t wr => t = .int .i64 1 ∧ wr = w) (fun _ _ => 0)
  case atStart => exact ⟨rfl, rfl⟩
  case round =>
    obtain ⟨rfl, rfl⟩ := hrel
    go_wp2_with fail
    refine (works_any _).mono ?_
    rintro e w5 ⟨rfl, B5⟩
    go_wp2_with fail
    go_ret
    exact ⟨rfl, B5⟩

theorem walk (a0 : Option Addr) (len0 cap0 : Nat) (z0 : List Int) (w : World) (w0 : IsRow .u64 w a0 len0 cap0 z0) :
    Calls Try.prog 7 #[.slice a0 len0 cap0] w fun e w' => e = .returned (.bool true) ∧ Below w.heap.size w w' := by
  rcases w0 with ⟨rfl, rfl, rfl, rfl⟩ | ⟨x, rfl, hl, hm, hz, hcell, hwz⟩
  · exact walk_zero _ _ _
  · by_cases h0 : len0 = 0
    · subst h0; exact walk_zero _ _ _
    · obtain ⟨b, off, spot⟩ := x
      have hc := hcell 0 (by omega)
      have hspot : spot = none := by simpa [Addr.add] using World.cell?_spot hc
      subst hspot
      unfold maxLen at hm
      have hr : ∀ i, i < z0.length → 0 ≤ z0.getD i 0 ∧ z0.getD i 0 < 18446744073709551616 := fun i hi => by
        have hw := hwz (z0.getD i 0) (by rw [List.getD_eq_getElem?_getD, List.getElem?_eq_getElem hi]; exact List.getElem_mem hi)
        have := bounds_u64 hw
        omega
      have hb : b < w.heap.size := by
        have := block_lt_of_cell hc
        simpa [Addr.add] using this
      refine walk_some b off len0 cap0 (fun i => (z0.getD i 0).toNat) w (fun i hi => ?_) (fun i hi => ?_) (by omega) (fun _ => hb)
      · have h1 := hcell i (by omega)
        rw [Addr.add_mid] at h1
        rw [h1]
        have := hr i (by omega)
        show some (Value.int .u64 (z0.getD i 0)) = some (Value.int .u64 ((z0.getD i 0).toNat : Int))
        rw [Int.toNat_of_nonneg this.1]
      · have := hr i (by omega)
        show (z0.getD i 0).toNat < _
        omega

/-! ### THE ROW's STEP: WRITTEN OUT: LEAVE IT -/
set_option maxRecDepth 100000 in
theorem lifted (os : Os) (started : os.Started) (H : Type) (enc : TypeId × Value → H) :
    ReturnsInHanded {} Try.checked os 7 .any (Rows.bitsOrderSpec.pre6 enc Try.prog Try.f7 Rows.bitsOrderRow.domain false) (Rows.bitsOrderSpec.post enc Try.prog Try.f7 false true false false) := by
  refine returnsInHanded_of_change (C := Try.checked) own started (by kernel_rfl) Try.func7
    (ChangeSpec.witness6 (enc := enc) (C := Try.checked) false ⟨#[], #[.slice none 0 0], []⟩ 8 (by kernel_rfl) (by kernel_rfl) (by kernel_rfl) (by kernel_rfl)) ?_
  intro W base args ds gs before hval0 hW hcnd _
  have hval : ∀ (j : Nat) t v, Try.f7.params[j]? = some t → args[j]? = some v → Value.okWide Try.prog W .any base t v := hval0
  have hW' := hW
  obtain ⟨p, q, hA0, hV, rfl, hfz, hnd⟩ := hW
  have hA : DataW.TrodAll enc Try.prog W 0 (fun _ => true) true Try.f7.params.toList args.toList ds p := hA0
  rw [Try.params7] at hA hval
  obtain ⟨v0, vs0, d0, ds0, p0, q0, hargs, rfl, rfl, h0, r0⟩ := trodAll_cons hA
  obtain ⟨rfl, rfl, rfl⟩ := trodAll_nil r0
  obtain rfl : args = #[v0] := by cases args; simp_all
  obtain ⟨rfl, rfl⟩ := trodVars_none hV
  obtain ⟨a0, len0, cap0, rfl⟩ := okWide_slice Try.underlying103 (hval 0 103 v0 rfl rfl)
  have k0 := h0
  have lt0 : ∀ x ∈ p0, x.block < W.heap.size := by obtain ⟨m, hm⟩ := k0; exact DataW.trod_lt m _ _ _ hm
  obtain ⟨z0, w0⟩ : ∃ zs, IsRow .u64 W a0 len0 cap0 zs := by
    obtain ⟨fuel, hf⟩ := h0
    rcases open_ints Try.underlying103 Try.underlying63 (by kernel_rfl) hf with ⟨hcs, _⟩ | ⟨x, l, c, zs, hcs, _, hl, hm, hz, _, hcell, hwz⟩
    · simp [Value.cells] at hcs
      obtain ⟨rfl, rfl, rfl⟩ := hcs
      exact ⟨[], .inl ⟨rfl, rfl, rfl, rfl⟩⟩
    · simp [Value.cells] at hcs
      obtain ⟨rfl, rfl, rfl⟩ := hcs
      exact ⟨zs, .inr ⟨_, rfl, hl, hm, by simpa using hz, hcell, hwz⟩⟩
  clear hA0 hval0
  refine (walk a0 len0 cap0 z0 W w0).mono fun e W' ⟨he, bel⟩ => ?_
  subst he
  exact ⟨_, rfl, _, _, _, [], _, [], hW', trodAll_mk1 (shut_bool Try.underlying4 _), (trodAll_cons_mk (Below.trod laidOut (by kernel_rfl) (of_decide_eq_true (by kernel_rfl)) k0 bel lt0) trodAll_mk0), rfl, bel.frame _, fun h => by cases h⟩

theorem over : Rows.bitsOrderRow.holds Try.pinned (OpenSpec.ofChange Rows.bitsOrderSpec) :=
  OpenClaim.holds_of_wide 7 Try.f7 rfl rfl rfl rfl rfl rfl rfl ⟨rfl, rfl, rfl, rfl, rfl⟩ rfl rfl rfl rfl rfl (by kernel_rfl) Try.func7 (by kernel_rfl)
    (of_decide_eq_true (by kernel_rfl)) (by unfold Func.isWrapper; first | (rw [if_pos (by decide +kernel)]; kernel_rfl) | (rw [if_neg (by decide +kernel)]; exact ⟨rfl, rfl⟩))
    (fun os started H enc _ => lifted os started H enc)

end Go.Proofs.Ytpiiagjfimdflaa.bitsOrder
namespace Go.Proofs.Ytpiiagjfimdflaa

theorem bitsOrder_holds : Rows.BitsOrderSaid := bitsOrder.over
#print axioms bitsOrder_holds
end Go.Proofs.Ytpiiagjfimdflaa

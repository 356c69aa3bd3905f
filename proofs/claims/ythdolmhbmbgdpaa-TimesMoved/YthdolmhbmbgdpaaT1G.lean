/- The contract of take: the walk. -/
import Derived.Test.YthdolmhbmbgdpaaT1F
namespace Go.Proofs.Ythdolmhbmbgdpaa
open Go.RowKit
open M
set_option linter.unusedVariables false

set_option maxHeartbeats 1000000 in
theorem take_any (b : Nat) (s : ByteArray) (n : Nat) (w : World) (h : Rd w b 0 s 0 0) (hn : n ≤ 4096) :
    Calls Try.prog 19 #[.pointer (some ⟨b, 0, none⟩), .int .i64 n] w (TakeEnd w b s n) := by
  have hbs : b < w.heap.size := block_lt_of_cell h.text
  have H := hide h
  clear h
  have hmk := make_times n hn
  have hA : Hid (Only b 0 3 w (w.alloc (.cells (Array.replicate n (Value.int .i64 0)) 2))) := (Only.refl b 0 3 w).alloc hbs _
  by_cases h0 : n = 0
  · have hne : ((n : Int) == 0) = true := by rw [beq_iff_eq]; omega
    have H0 := hide h0
    clear h0
    go_enter Try.func19, Try.ntmps19
    go_wp2_with fail
    go_ret2
    refine .inr ⟨0, 0, fun _ => 0, rfl, ?_, ?_, hA.out, by simp, fun i hi => by have := H0.out; omega, fun _ => by rw [H0.out]; simp [tbn], fun h hB => ⟨rfl, fun i hi => by have := H0.out; omega⟩⟩
    · rw [H0.out]; exact TW.new w 0 _ _
    · exact H.out.below (w' := w.alloc _) ((Below.refl _ w).alloc (Nat.le_refl _) _) hbs
  have hne : ((n : Int) == 0) = false := by rw [beq_eq_false_iff_ne]; omega
  have HN : Hid (TW (w.alloc (.cells (Array.replicate n (Value.int .i64 0)) 2)) w.heap.size n 0 (fun _ => 0)) := TW.new w n _ _
  have HR : Hid (Rd (w.alloc (.cells (Array.replicate n (Value.int .i64 0)) 2)) b 0 s 0 0) := H.out.below ((Below.refl _ w).alloc (Nat.le_refl _) _) hbs
  have hs1 : Hid (w.heap.size < (w.alloc (.cells (Array.replicate n (Value.int .i64 0)) 2)).heap.size) := by show _ < _; simp
  have hgb : w.heap.size ≠ b := by omega
  go_enter Try.func19, Try.ntmps19
  go_upto_region 4 with fail
  generalize w.alloc (.cells (Array.replicate n (Value.int .i64 0)) 2) = W0 at *
  clear hmk
  go_wp2_with fail
  refine (tk_bits b 0 s 0 64 0 W0 HR.out (by omega)).mono ?_
  rintro e w1 ⟨x, a, e1, rfl, hx, T⟩
  have HX : Hid (x < 18446744073709551616) := hx
  clear hx
  have R1 : TW w1 w.heap.size n 0 (fun _ => 0) := HN.out.only T.only hgb hs1.out
  have c1 : w1.cell? ⟨w.heap.size, 0, none⟩ = some (.int .i64 0) := R1.cell 0 (by omega)
  have c2 := R1.fz 0
  have HT1 := hide (Tn.first (w := w) (f := fun _ => 0) (by omega) (Nat.le_refl _) hgb hs1.out HN.out hA.out T HX.out)
  clear R1 T
  go_wp2_with fail
  generalize w1.setCell ⟨w.heap.size, 0, none⟩ (.int .i64 (wrap64 (x : Int))) = W1 at *
  clear c1 c2
  go_loopw [4, 6, 7] (fun t4 t6 t7 wr => ∃ (k a : Nat) (e1 : Int) (f : Nat → Int), t4 = .slice (some ⟨w.heap.size, 0, none⟩) n n ∧ t6 = .int .u64 (ahd f k : Int) ∧ t7 = .int .i64 ((k : Int) + 1) ∧ Hid (k < n) ∧ Hid (Tn w wr b s w.heap.size n (k + 1) a e1 f)) (fun _ _ t7 _ => n - (intOf t7).toNat)
  case atStart => exact ⟨0, a, e1, _, rfl, rfl, rfl, by show 0 < n; omega, HT1.out⟩
  case round =>
    clear HT1 HX
    obtain ⟨k, a, e1, f, rfl, rfl, rfl, hk, hT⟩ := hrel
    by_cases hlt : k + 1 < n
    · obtain ⟨A, hA⟩ : ∃ A, A = ahd f k := ⟨_, rfl⟩
      have hA2 : A < 18446744073709551616 := by rw [hA]; exact ahd_lt _ _
      rw [← hA]
      have HA := hide hA
      have HA2 := hide hA2
      clear hA hA2
      go_wp2_with fail
      refine (takeZigzag_any b 0 s a e1 wr hT.out.rd).mono ?_
      rintro e w2 ⟨u, ok, a2, e2, rfl, hu, R2, O2, hs, hf⟩
      have HU := hide hu
      have HS := hide hs
      have HF := hide hf
      clear hu hs hf
      cases ok with
      | false =>
        go_wp2_with fail
        go_ret2
        refine .inl ⟨rfl, hT.out.only.trans O2, hT.out.none hlt fun h1 v r hv hr => ?_⟩
        have := (HF.out h1 v r hv hr).2.1
        cases this
      | true =>
        go_wp2_with fail
        refine (unzigzag_any u w2 HU.out).mono ?_
        rintro e w3 ⟨rfl, rfl⟩
        obtain ⟨z, hz⟩ : ∃ z, z = zag u := ⟨_, rfl⟩
        have hzr := zag_range u HU.out
        rw [← hz] at hzr ⊢
        obtain ⟨Z, hZ⟩ : ∃ Z : Nat, Z = (z % 18446744073709551616).toNat := ⟨_, rfl⟩
        obtain ⟨D, hD⟩ : ∃ D : Nat, D = (((A : Int) + z) % 18446744073709551616).toNat := ⟨_, rfl⟩
        have hDi : (D : Int) = ((A : Int) + z) % 18446744073709551616 := by rw [hD]; exact Int.toNat_of_nonneg (Int.emod_nonneg _ (by decide))
        have HDi := hide hDi
        clear hDi
        obtain ⟨fk, hfk⟩ : ∃ fk, fk = f k := ⟨_, rfl⟩
        have hfr := hT.out.rng k (by omega)
        rw [← hfk] at hfr
        obtain ⟨X, hX⟩ : ∃ X : Nat, X = (fk % 18446744073709551616).toNat := ⟨_, rfl⟩
        obtain ⟨Y, hY⟩ : ∃ Y : Nat, Y = ((fk + (D : Int)) % 18446744073709551616).toNat := ⟨_, rfl⟩
        obtain ⟨t, ht⟩ : ∃ t : Int, t = (fk + (D : Int) + 9223372036854775808) % 18446744073709551616 - 9223372036854775808 := ⟨_, rfl⟩
        have q1 : IntKind.u64.wrap z = (Z : Int) := by rw [hZ]; simp only [IntKind.wrap, IntKind.bits, IntKind.signed]; simp; omega
        have q2 : IntKind.u64.wrap ((A : Int) + (Z : Int)) = (D : Int) := by rw [hZ, hD]; simp only [IntKind.wrap, IntKind.bits, IntKind.signed]; simp; omega
        have q3 : IntKind.u64.wrap fk = (X : Int) := by rw [hX]; simp only [IntKind.wrap, IntKind.bits, IntKind.signed]; simp; omega
        have q4 : IntKind.u64.wrap ((X : Int) + (D : Int)) = (Y : Int) := by rw [hX, hY]; simp only [IntKind.wrap, IntKind.bits, IntKind.signed]; simp; omega
        have q5 : wrap64 (Y : Int) = t := by rw [hY, ht]; unfold wrap64; omega
        have RW := hT.out.row.only O2 hgb hT.out.size
        have c1 : w3.cell? ⟨w.heap.size, k, none⟩ = some (.int .i64 fk) := by rw [RW.cell k (by omega), if_pos (by omega), hfk]
        have c2 : w3.cell? ⟨w.heap.size, k + 1, none⟩ = some (.int .i64 0) := by rw [RW.cell (k + 1) hlt, if_neg (by omega)]
        have c3 := RW.fz (k + 1)
        have HNX := hide (Tn.next hlt (Nat.le_refl _) hgb hT.out u D t HU.out R2 O2 (fun h => HS.out h (by trivial)) (fun h v r hv hr => ⟨(HF.out h v r hv hr).1, (HF.out h v r hv hr).2.2⟩) (by rw [← HA.out, ← hz]; exact HDi.out) (by rw [← hfk]; exact ht))
        have HZ := hide hZ
        have HD := hide hD
        have HX := hide hX
        have HY := hide hY
        have HT := hide ht
        have Hz := hide hz
        have Hfk := hide hfk
        clear hZ hD hX hY ht hz hfk hzr hfr RW
        go_wp2_with fail
        go_roundw
        case rel =>
          refine ⟨k + 1, a2, e2, _, rfl, ?_, by simp, hlt, HNX.out.1⟩
          rw [HNX.out.2]
        case measure => simp [intOf]; omega
    · go_wp2_with fail
      go_ret2
      obtain rfl : n = k + 1 := by have := hk.out; omega
      exact .inr ⟨a, e1, f, rfl, hT.out⟩

end Go.Proofs.Ythdolmhbmbgdpaa

/- The contract of take: the walk. -/
import Derived.Test.YtangjkhflgkkdaaGreatT1E
/- The contract of take. -/
namespace Go.Proofs.YtangjkhflgkkdaaGreat
open Go.RowKit
open M
set_option linter.unusedVariables false

theorem make_times (c : Nat) (h : c ≤ 4096) (w : World) :
    (Instr.makeSlice 54 (.int .i64 (c : Int)) (.int .i64 (c : Int))).run Tryz.prog w = .ok (.slice (some ⟨w.heap.size, 0, none⟩) c c) (w.alloc (.cells (Array.replicate c (Value.int .i64 0)) 2)) := by
  have hz : (Tryz.prog.info? 2).bind (·.zero) = some (.int .i64 0) := by kernel_rfl
  have hs : (Tryz.prog.info? 2).map (·.size) = some 1 := by kernel_rfl
  have hb : (Tryz.prog.info? 2).map (·.bytes) = some 8 := by kernel_rfl
  cases hi : Tryz.prog.info? 2 with
  | none => simp [hi] at hs
  | some i =>
    simp only [hi, Option.bind_some, Option.map_some, Option.some.injEq] at hz hs hb
    rw [run_make w 54 2 i _ Tryz.underlying54 hi hz .i64 .i64 (c : Int) (c : Int) (by omega) (by omega) (by rw [hb]; omega) (by omega)]
    have e : madeCells (Value.int .i64 0).cells ((c : Int).toNat * i.size) = Array.replicate c (Value.int .i64 0) := by
      rw [hs]
      apply Array.ext
      · simp [madeCells]
      · intro j h1 h2
        simp [madeCells, Value.cells, Nat.mod_one]
    rw [e]; simp

/-- A row of n times of one's own, of which the first k are laid. -/
structure TW (w : World) (g n k : Nat) (f : Nat → Int) : Prop where
  cell : ∀ i, i < n → w.cell? ⟨g, i, none⟩ = some (.int .i64 (if i < k then f i else 0))
  fz : ∀ i, w.frozen? ⟨g, i, none⟩ = false
  blk : ∃ cur : Array Value, w.heap[g]? = some (.cells cur 2 (0, 0)) ∧ cur.size = n

theorem TW.new (w : World) (n : Nat) (f : Nat → Int) : TW (w.alloc (.cells (Array.replicate n (Value.int .i64 0)) 2)) w.heap.size n 0 f := by
  have hn := heap_alloc_new w (.cells (Array.replicate n (Value.int .i64 0)) 2)
  refine ⟨fun i hi => ?_, fun i => frozen_of_row _ _ _ _ _ hn, _, hn, by simp⟩
  rw [cell_of_row _ _ _ _ _ _ hn]
  simp [hi]

theorem TW.set {w : World} {g n k : Nat} {f : Nat → Int} (h : TW w g n k f) (hk : k < n) (t : Int) : TW (w.setCell ⟨g, k, none⟩ (.int .i64 t)) g n (k + 1) (fun i => if i = k then t else f i) := by
  refine ⟨fun i hi => ?_, fun i => by rw [frozen_setCell]; exact h.fz i, ?_⟩
  case refine_2 =>
    obtain ⟨cur, h1, h2⟩ := h.blk
    exact ⟨_, heap_setCell_same w g k cur _ _ h1, by simpa using h2⟩
  by_cases e : i = k
  · subst e
    rw [cell_setCell_eq _ _ _ _ _ (h.cell i hi)]; simp
  · rw [cell_setCell_ne _ _ _ _ _ e, h.cell i hi]
    by_cases h1 : i < k
    · simp [h1, e, show i < k + 1 from by omega]
    · simp [h1, show ¬ i < k + 1 from by omega]

theorem TW.only {w w' : World} {g n k b lo hi : Nat} {f : Nat → Int} (h : TW w g n k f) (ho : Only b lo hi w w') (hg : g ≠ b) (hs : g < w.heap.size) : TW w' g n k f := by
  have e := ho.block g hs hg
  exact ⟨fun i hi => by rw [World.cell?_of_block (w := w) e]; exact h.cell i hi, fun i => by rw [World.frozen?_of_block (w := w) (w' := w') (a := ⟨g, i, none⟩) e]; exact h.fz i, by rw [e]; exact h.blk⟩

theorem TW.congr {w : World} {g n k : Nat} {f f' : Nat → Int} (h : TW w g n k f) (e : ∀ i, i < k → f i = f' i) : TW w g n k f' :=
  ⟨fun i hi => by rw [h.cell i hi]; by_cases h1 : i < k
                  · rw [if_pos h1, if_pos h1, e i h1]
                  · rw [if_neg h1, if_neg h1], h.fz, h.blk⟩

theorem Only.setOther {b lo hi : Nat} {u w : World} (h : Only b lo hi u w) (g i : Nat) (hg : u.heap.size ≤ g) (hb : g ≠ b) (v : Value) : Only b lo hi u (w.setCell ⟨g, i, none⟩ v) := by
  have hbk : ∀ k, k ≠ g → (w.setCell ⟨g, i, none⟩ v).heap[k]? = w.heap[k]? := fun k hk => Below.heap_setCell _ _ _ _ hk
  refine ⟨h.os, h.tape, h.output, Nat.le_trans h.size (by simp [World.setCell]), fun k hk hb => ?_, fun j hj => ?_, fun j => ?_⟩
  · rw [hbk k (by omega)]; exact h.block k hk hb
  · rw [World.cell?_of_block (w := w) (hbk b (by omega))]; exact h.cell j hj
  · rw [frozen_setCell]; exact h.frozen j

theorem Rd.setOther {w : World} {b off : Nat} {s : ByteArray} {a : Nat} {e : Int} (h : Rd w b off s a e) (g i : Nat) (hb : g ≠ b) (v : Value) : Rd (w.setCell ⟨g, i, none⟩ v) b off s a e := by
  have hbk : (w.setCell ⟨g, i, none⟩ v).heap[b]? = w.heap[b]? := Below.heap_setCell _ _ _ _ (fun e => hb e.symm)
  have hc : ∀ j, (w.setCell ⟨g, i, none⟩ v).cell? ⟨b, j, none⟩ = w.cell? ⟨b, j, none⟩ := fun j => World.cell?_of_block (w := w) hbk
  exact ⟨by rw [hc]; exact h.text, by rw [hc]; exact h.at_, by rw [hc]; exact h.err, fun j hj => by rw [frozen_setCell]; exact h.fz j hj, h.size, h.le⟩

/-- The bits begin with those of n times g. -/
def Begins (R : List Bool) (g : Nat → Int) (n : Nat) : Prop := (∀ i, i < n → I64 (g i)) ∧ ∃ r, R = tbn g n ++ r

/-- What stands where k times have been taken. -/
structure Tn (w wr : World) (b : Nat) (s : ByteArray) (g n k a : Nat) (e1 : Int) (f : Nat → Int) : Prop where
  row : TW wr g n k f
  rd : Rd wr b 0 s a e1
  only : Only b 0 3 w wr
  size : g < wr.heap.size
  rng : ∀ i, i < k → I64 (f i)
  sound : e1 = 0 → (rb s).take a = tbn f k
  full : ∀ h, Begins (rb s) h n → e1 = 0 ∧ ∀ i, i < k → f i = h i

/-- What take tells. -/
def TakeEnd (w : World) (b : Nat) (s : ByteArray) (n : Nat) (e : Ending) (w' : World) : Prop :=
  (e = .returned (.tuple #[.slice none 0 0, .bool false]) ∧ Only b 0 3 w w' ∧ ¬ ∃ h, Begins (rb s) h n) ∨
    ∃ (a : Nat) (e1 : Int) (f : Nat → Int), e = .returned (.tuple #[.slice (some ⟨w.heap.size, 0, none⟩) n n, .bool true]) ∧ Tn w w' b s w.heap.size n n a e1 f

/-- The first time. -/
theorem Tn.first {w w1 w2 : World} {b : Nat} {s : ByteArray} {g n a x : Nat} {e1 : Int} {f : Nat → Int} (hn : 0 < n) (hg : w.heap.size ≤ g) (hgb : g ≠ b) (hgs : g < w1.heap.size) (R : TW w1 g n 0 f) (O : Only b 0 3 w w1)
    (T : Tk w1 w2 b 0 s 0 0 a e1 (bitsOf x 64)) (hx : x < 18446744073709551616) :
    Tn w (w2.setCell ⟨g, 0, none⟩ (.int .i64 (wrap64 (x : Int)))) b s g n 1 a e1 (fun _ => wrap64 (x : Int)) := by
  have hu : u64 (wrap64 (x : Int)) = x := by unfold u64 wrap64; omega
  have hs2 := T.only.size
  have hS : e1 = 0 → (rb s).take a = tbn (fun _ => wrap64 (x : Int)) 1 := fun h => by rw [(T.sound h).2, tbn_one, hu]; simp
  refine ⟨?_, T.rd.setOther g 0 hgb _, (O.trans T.only).setOther g 0 hg hgb _, by simp [World.setCell]; omega, fun i hi => ?_, hS, ?_⟩
  · exact ((R.only T.only hgb hgs).set hn _).congr fun i hi => by rw [if_pos (by omega)]
  · unfold I64 wrap64; omega
  · rintro h ⟨hr, r, hR⟩
    obtain ⟨r1, h1⟩ := tbn_prefix h 1 n hn
    rw [h1, tbn_one, List.append_assoc] at hR
    have he : e1 = 0 := T.full rfl (by rw [hR]; simp)
    refine ⟨he, fun i hi => ?_⟩
    obtain rfl : i = 0 := by omega
    have h2 := take_eq_drop _ _ 0 a (by rw [hS he, tbn_one]; rfl)
    rw [List.drop_zero, hR] at h2
    have := (bits_inj _ _ 64 _ _ (u64_lt _) (u64_lt _) h2).1
    exact (u64_inj _ _ (hr 0 hn) (by unfold I64 wrap64; omega) this).symm

theorem zag_zg {a : Nat} {u : Nat} (hu : u < 18446744073709551616) : zig (zag u) = u := zig_zag u

/-- One time more. -/
theorem Tn.next {w wr w2 : World} {b : Nat} {s : ByteArray} {g n k a a' : Nat} {e1 e2 : Int} {f : Nat → Int} (hk : k + 1 < n) (hg : w.heap.size ≤ g) (hgb : g ≠ b) (T : Tn w wr b s g n (k + 1) a e1 f) (u D : Nat) (t : Int) (hu : u < 18446744073709551616)
    (hR : Rd w2 b 0 s a' e2) (hO : Only b 0 3 wr w2) (hs : e2 = 0 → e1 = 0 ∧ (rb s).take a' = (rb s).take a ++ zb u)
    (hf : e1 = 0 → ∀ v r, v < 18446744073709551616 → (rb s).drop a = zb v ++ r → u = v ∧ e2 = 0)
    (hD : (D : Int) = ((ahd f k : Nat) + zag u) % 18446744073709551616) (ht : t = (f k + (D : Int) + 9223372036854775808) % 18446744073709551616 - 9223372036854775808) :
    Tn w (w2.setCell ⟨g, k + 1, none⟩ (.int .i64 t)) b s g n (k + 2) a' e2 (fun i => if i = k + 1 then t else f i) ∧ ahd (fun i => if i = k + 1 then t else f i) (k + 1) = D := by
  obtain ⟨t1, t2, t3, t4⟩ := take_next (f k) (ahd f k) u (T.rng k (by omega)) (zag u) (zig_zag u) (zag_range u hu) D hD t ht
  have hs2 := hO.size
  have hsz := T.size
  obtain ⟨F, hF⟩ : ∃ F : Nat → Int, F = fun i => if i = k + 1 then t else f i := ⟨_, rfl⟩
  have F1 : F (k + 1) = t := by rw [hF]; simp
  have F2 : ∀ i, i ≤ k → F i = f i := fun i hi => by rw [hF]; simp; omega
  have ea : ahd F k = ahd f k := by
    cases k with
    | zero => rfl
    | succ k => simp only [ahd]; rw [F2 (k + 1) (by omega), F2 k (by omega)]
  have ez : zg F k = u := by unfold zg; rw [F1, F2 k (by omega), ea]; exact t4
  have ed : ahd F (k + 1) = D := by simp only [ahd]; rw [F1, F2 k (by omega)]; exact t2
  have eb : tbn F (k + 1) = tbn f (k + 1) := tbn_congr _ _ _ fun i hi => F2 i (by omega)
  rw [← hF]
  refine ⟨⟨?_, hR.setOther g _ hgb _, (T.only.trans hO).setOther g _ hg hgb _, by simp [World.setCell]; omega, fun i hi => ?_, fun he => ?_, ?_⟩, ed⟩
  · rw [hF]; exact (T.row.only hO hgb T.size).set hk t
  · by_cases e : i = k + 1
    · subst e; rw [F1]; exact t1
    · rw [F2 i (by omega)]; exact T.rng i (by omega)
  · obtain ⟨h1, h2⟩ := hs he
    rw [h2, T.sound h1, tbn_step, ez, eb]
  · intro h hB
    obtain ⟨h1, h2⟩ := T.full h hB
    obtain ⟨hr, r, hRR⟩ := hB
    obtain ⟨r1, h3⟩ := tbn_prefix h (k + 2) n (by omega)
    rw [h3, tbn_step, List.append_assoc, List.append_assoc] at hRR
    have h4 : (rb s).take a = tbn h (k + 1) := by rw [T.sound h1]; exact tbn_congr _ _ _ h2
    have h5 : (rb s).drop a = zb (zg h k) ++ (r1 ++ r) := by
      have := List.take_append_drop a (rb s)
      rw [h4] at this
      rw [hRR] at this ⊢
      exact List.append_cancel_left this
    obtain ⟨h6, h7⟩ := hf h1 _ _ (zg_lt h k) h5
    refine ⟨h7, fun i hi => ?_⟩
    by_cases e : i = k + 1
    · subst e
      exact zg_inj F h k (by rw [F1]; exact t1) (hr _ (by omega)) (fun j hj => by rw [F2 j hj]; exact h2 j (by omega)) (by rw [ez]; exact h6)
    · rw [F2 i (by omega)]; exact h2 i (by omega)

/-- A zigzag that has a shorter form: there are no such times. -/
theorem Tn.none {w wr : World} {b : Nat} {s : ByteArray} {g n k a : Nat} {e1 : Int} {f : Nat → Int} (hk : k + 1 < n) (T : Tn w wr b s g n (k + 1) a e1 f)
    (hf : e1 = 0 → ∀ v r, v < 18446744073709551616 → (rb s).drop a = zb v ++ r → False) : ¬ ∃ h, Begins (rb s) h n := by
  rintro ⟨h, hB⟩
  obtain ⟨h1, h2⟩ := T.full h hB
  obtain ⟨hr, r, hRR⟩ := hB
  obtain ⟨r1, h3⟩ := tbn_prefix h (k + 2) n (by omega)
  rw [h3, tbn_step, List.append_assoc, List.append_assoc] at hRR
  have h4 : (rb s).take a = tbn h (k + 1) := by rw [T.sound h1]; exact tbn_congr _ _ _ h2
  refine hf h1 (zg h k) (r1 ++ r) (zg_lt h k) ?_
  have := List.take_append_drop a (rb s)
  rw [h4] at this
  rw [hRR] at this ⊢
  exact List.append_cancel_left this

end Go.Proofs.YtangjkhflgkkdaaGreat

namespace Go.Proofs.YtangjkhflgkkdaaGreat
open Go.RowKit
open M
set_option linter.unusedVariables false

set_option maxHeartbeats 1000000 in
theorem take_any (b : Nat) (s : ByteArray) (n : Nat) (w : World) (h : Rd w b 0 s 0 0) (hn : n ≤ 4096) :
    Calls Tryz.prog 40 #[.pointer (some ⟨b, 0, none⟩), .int .i64 n] w (TakeEnd w b s n) := by
  have hbs : b < w.heap.size := block_lt_of_cell h.text
  have H := hide h
  clear h
  have hmk := make_times n hn
  have hA : Hid (Only b 0 3 w (w.alloc (.cells (Array.replicate n (Value.int .i64 0)) 2))) := (Only.refl b 0 3 w).alloc hbs _
  by_cases h0 : n = 0
  · have hne : ((n : Int) == 0) = true := by rw [beq_iff_eq]; omega
    have H0 := hide h0
    clear h0
    go_enter Tryz.func40, Tryz.ntmps40
    go_wp2_with fail
    go_ret2
    refine .inr ⟨0, 0, fun _ => 0, rfl, ?_, ?_, hA.out, by simp, fun i hi => by have := H0.out; omega, fun _ => by rw [H0.out]; simp [tbn], fun h hB => ⟨rfl, fun i hi => by have := H0.out; omega⟩⟩
    · rw [H0.out]; exact TW.new w 0 _
    · exact H.out.below (w' := w.alloc _) ((Below.refl _ w).alloc (Nat.le_refl _) _) hbs
  have hne : ((n : Int) == 0) = false := by rw [beq_eq_false_iff_ne]; omega
  have HN : Hid (TW (w.alloc (.cells (Array.replicate n (Value.int .i64 0)) 2)) w.heap.size n 0 (fun _ => 0)) := TW.new w n _
  have HR : Hid (Rd (w.alloc (.cells (Array.replicate n (Value.int .i64 0)) 2)) b 0 s 0 0) := H.out.below ((Below.refl _ w).alloc (Nat.le_refl _) _) hbs
  have hs1 : Hid (w.heap.size < (w.alloc (.cells (Array.replicate n (Value.int .i64 0)) 2)).heap.size) := by show _ < _; simp
  have hgb : w.heap.size ≠ b := by omega
  go_enter Tryz.func40, Tryz.ntmps40
  go_upto_region 4 with fail
  generalize w.alloc (.cells (Array.replicate n (Value.int .i64 0)) 2) = W0 at *
  clear hmk
  go_wp2_with fail
  refine (tk_bits b 0 s 0 64 0 W0 HR.out (by omega)).mono ?_
  rintro e w1 ⟨x, a, e1, rfl, hx, T⟩
  have HX : Hid (x < 18446744073709551616) := hx
  clear hx
  have R1 : TW w1 w.heap.size n 0 (fun _ => 0) := HN.out.only T.only hgb hs1.out
  have c1 : w1.cell? ⟨w.heap.size, 0, none⟩ = some (.int .i64 0) := R1.cell 0 (by omega)
  have c2 := R1.fz 0
  have HT1 := hide (Tn.first (w := w) (f := fun _ => 0) (by omega) (Nat.le_refl _) hgb hs1.out HN.out hA.out T HX.out)
  clear R1 T
  go_wp2_with fail
  generalize w1.setCell ⟨w.heap.size, 0, none⟩ (.int .i64 (wrap64 (x : Int))) = W1 at *
  clear c1 c2
  go_loopw [4, 6, 7] (fun t4 t6 t7 wr => ∃ (k a : Nat) (e1 : Int) (f : Nat → Int), t4 = .slice (some ⟨w.heap.size, 0, none⟩) n n ∧ t6 = .int .u64 (ahd f k : Int) ∧ t7 = .int .i64 ((k : Int) + 1) ∧ Hid (k < n) ∧ Hid (Tn w wr b s w.heap.size n (k + 1) a e1 f)) (fun _ _ t7 _ => n - (intOf t7).toNat)
  case atStart => exact ⟨0, a, e1, _, rfl, rfl, rfl, by show 0 < n; omega, HT1.out⟩
  case round =>
    clear HT1 HX
    obtain ⟨k, a, e1, f, rfl, rfl, rfl, hk, hT⟩ := hrel
    by_cases hlt : k + 1 < n
    · obtain ⟨A, hA⟩ : ∃ A, A = ahd f k := ⟨_, rfl⟩
      have hA2 : A < 18446744073709551616 := by rw [hA]; exact ahd_lt _ _
      rw [← hA]
      have HA := hide hA
      have HA2 := hide hA2
      clear hA hA2
      go_wp2_with fail
      refine (takeZigzag_any b 0 s a e1 wr hT.out.rd).mono ?_
      rintro e w2 ⟨u, ok, a2, e2, rfl, hu, R2, O2, hs, hf⟩
      have HU := hide hu
      have HS := hide hs
      have HF := hide hf
      clear hu hs hf
      cases ok with
      | false =>
        go_wp2_with fail
        go_ret2
        refine .inl ⟨rfl, hT.out.only.trans O2, hT.out.none hlt fun h1 v r hv hr => ?_⟩
        have := (HF.out h1 v r hv hr).2.1
        cases this
      | true =>
        go_wp2_with fail
        refine (unzigzag_any u w2 HU.out).mono ?_
        rintro e w3 ⟨rfl, rfl⟩
        obtain ⟨z, hz⟩ : ∃ z, z = zag u := ⟨_, rfl⟩
        have hzr := zag_range u HU.out
        rw [← hz] at hzr ⊢
        obtain ⟨Z, hZ⟩ : ∃ Z : Nat, Z = (z % 18446744073709551616).toNat := ⟨_, rfl⟩
        obtain ⟨D, hD⟩ : ∃ D : Nat, D = (((A : Int) + z) % 18446744073709551616).toNat := ⟨_, rfl⟩
        have hDi : (D : Int) = ((A : Int) + z) % 18446744073709551616 := by rw [hD]; exact Int.toNat_of_nonneg (Int.emod_nonneg _ (by decide))
        have HDi := hide hDi
        clear hDi
        obtain ⟨fk, hfk⟩ : ∃ fk, fk = f k := ⟨_, rfl⟩
        have hfr := hT.out.rng k (by omega)
        rw [← hfk] at hfr
        obtain ⟨X, hX⟩ : ∃ X : Nat, X = (fk % 18446744073709551616).toNat := ⟨_, rfl⟩
        obtain ⟨Y, hY⟩ : ∃ Y : Nat, Y = ((fk + (D : Int)) % 18446744073709551616).toNat := ⟨_, rfl⟩
        obtain ⟨t, ht⟩ : ∃ t : Int, t = (fk + (D : Int) + 9223372036854775808) % 18446744073709551616 - 9223372036854775808 := ⟨_, rfl⟩
        have q1 : IntKind.u64.wrap z = (Z : Int) := by rw [hZ]; simp only [IntKind.wrap, IntKind.bits, IntKind.signed]; simp; omega
        have q2 : IntKind.u64.wrap ((A : Int) + (Z : Int)) = (D : Int) := by rw [hZ, hD]; simp only [IntKind.wrap, IntKind.bits, IntKind.signed]; simp; omega
        have q3 : IntKind.u64.wrap fk = (X : Int) := by rw [hX]; simp only [IntKind.wrap, IntKind.bits, IntKind.signed]; simp; omega
        have q4 : IntKind.u64.wrap ((X : Int) + (D : Int)) = (Y : Int) := by rw [hX, hY]; simp only [IntKind.wrap, IntKind.bits, IntKind.signed]; simp; omega
        have q5 : wrap64 (Y : Int) = t := by rw [hY, ht]; unfold wrap64; omega
        have RW := hT.out.row.only O2 hgb hT.out.size
        have c1 : w3.cell? ⟨w.heap.size, k, none⟩ = some (.int .i64 fk) := by rw [RW.cell k (by omega), if_pos (by omega), hfk]
        have c2 : w3.cell? ⟨w.heap.size, k + 1, none⟩ = some (.int .i64 0) := by rw [RW.cell (k + 1) hlt, if_neg (by omega)]
        have c3 := RW.fz (k + 1)
        have HNX := hide (Tn.next hlt (Nat.le_refl _) hgb hT.out u D t HU.out R2 O2 (fun h => HS.out h (by trivial)) (fun h v r hv hr => ⟨(HF.out h v r hv hr).1, (HF.out h v r hv hr).2.2⟩) (by rw [← HA.out, ← hz]; exact HDi.out) (by rw [← hfk]; exact ht))
        have HZ := hide hZ
        have HD := hide hD
        have HX := hide hX
        have HY := hide hY
        have HT := hide ht
        have Hz := hide hz
        have Hfk := hide hfk
        clear hZ hD hX hY ht hz hfk hzr hfr RW
        go_wp2_with fail
        go_roundw
        case rel =>
          refine ⟨k + 1, a2, e2, _, rfl, ?_, by simp, hlt, HNX.out.1⟩
          rw [HNX.out.2]
        case measure => simp [intOf]; omega
    · go_wp2_with fail
      go_ret2
      obtain rfl : n = k + 1 := by have := hk.out; omega
      exact .inr ⟨a, e1, f, rfl, hT.out⟩

end Go.Proofs.YtangjkhflgkkdaaGreat

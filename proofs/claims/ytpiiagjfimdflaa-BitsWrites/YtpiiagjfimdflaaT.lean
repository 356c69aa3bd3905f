/- The walk of BitsOne. -/
import Derived.Test.YtpiiagjfimdflaaH
import Derived.Test.YtpiiagjfimdflaaJ
import Derived.Deep.RegionHeld3
namespace Go.Proofs.Ytpiiagjfimdflaa
open Go.RowKit
open M
set_option linter.unusedVariables false

/-- A slice of bytes that came in. -/
def IsBy (w : World) (v : Value) (bs : List Nat) : Prop := IsBytes w v bs ∨ ∃ ad cap, v = .slice (some ad) 0 cap ∧ bs = []

theorem convert_by (w : World) (v : Value) (bs : List Nat) (h : IsBy w v bs) : (convert 29 9 v).run Try.prog w = .ok (.string (strOf bs)) w := by
  rcases h with h | ⟨ad, cap, rfl, rfl⟩
  · exact convert_bytes w v bs h
  · rw [run_convert_bytes_string w 29 9 5 _ 0 cap Try.underlying29 Try.underlying5 Try.underlying9, run_bytesToString w ad 0 cap [] (by simp [loadCells, loadCellsFrom])]; rfl

theorem from_by (w : World) (v : Value) (bs : List Nat) (h : IsBy w v bs) :
    Calls Try.prog 16 #[v] w fun e w' => e = .returned (.pointer (some ⟨w.heap.size, 0, none⟩)) ∧ w' = w.alloc (.cells #[.string (strOf bs), .int .i64 0, .int .i64 0] 112) := by
  rcases h with h | ⟨ad, cap, rfl, rfl⟩
  · exact from_any w v bs h
  · have hcv := convert_by w (.slice (some ad) 0 cap) [] (.inr ⟨ad, cap, rfl, rfl⟩)
    go_enter Try.func16, Try.ntmps16
    go_wp2
    go_ret
    exact ⟨rfl, rfl⟩

theorem isBy_below {w w' : World} {v : Value} {bs : List Nat} (h : IsBy w v bs) (hB : Below w.heap.size w w') : IsBy w' v bs := by
  rcases h with h | h
  · exact .inl (isBytes_below h hB)
  · exact .inr h

theorem isBy_wr {w w' : World} {v : Value} {bs : List Nat} (h : IsBy w v bs) (hB : Below w.heap.size w w') : IsBy w' v bs := isBy_below h hB

/-- The Reader in block g, the Writer in the next: what has been taken is what has been laid, as long as nothing was refused. -/
def OneSt (wr : World) (g : Nat) (s : ByteArray) (i : Nat) : Prop :=
  ∃ (a : Nat) (e : Int) (l : List Bool), Rd wr g 0 s a e ∧ Wr wr (g + 2) (g + 1) 0 l 0 ∧ (e = 0 → l = (rb s).take a) ∧ l.length ≤ 80 * i ∧ g + 2 ≤ wr.heap.size

theorem OneSt.below {w w' : World} {g : Nat} {s : ByteArray} {i : Nat} (h : OneSt w g s i) (hB : Below w.heap.size w w') : OneSt w' g s i := by
  obtain ⟨a, e, l, hR, hW, hE, hl, hs⟩ := h
  exact ⟨a, e, l, hR.below hB (by omega), hW.below hB, hE, hl, Nat.le_trans hs hB.size⟩

theorem OneSt.more {w : World} {g : Nat} {s : ByteArray} {i j : Nat} (h : OneSt w g s i) (hij : i ≤ j) : OneSt w g s j := by
  obtain ⟨a, e, l, hR, hW, hE, hl, hs⟩ := h
  exact ⟨a, e, l, hR, hW, hE, by omega, hs⟩

theorem lt64 (x M : Nat) (hM : M ≤ 64) (hx : x < 2 ^ M) : x < 18446744073709551616 := by
  have : (2 : Nat) ^ M ≤ 2 ^ 64 := Nat.pow_le_pow_right (by omega) hM
  omega

theorem Only.keep {b lo hi : Nat} {w w' : World} (h : Only b lo hi w w') {p : Addr} {v : Value} (hne : p.block ≠ b) (hp : w.cell? p = some v) : w'.cell? p = some v :=
  (World.cell?_of_block (w := w) (h.block p.block (block_lt_of_cell hp) hne)).trans hp

theorem one_end (bs : List Nat) (hb : ∀ n ∈ bs, n < 256) (a : Nat) (e : Int) (l : List Bool) (ha : a ≤ 8 * (strOf bs).size) (hE : e = 0 → l = (rb (strOf bs)).take a) (h : endE (strOf bs) a e = 0) : packed l = bs := by
  unfold endE at h
  by_cases he : e = 0
  · rw [if_pos he] at h
    rw [hE he, rb_strOf bs hb]
    rw [rb_strOf bs hb, strOf_size] at h
    rw [strOf_size] at ha
    by_cases h8 : 8 ≤ 8 * bs.length - a
    · rw [if_pos h8] at h; omega
    · rw [if_neg h8] at h
      by_cases hz : num ((rbits bs).drop a) = 0
      · exact packed_back bs hb a ha (by omega) hz
      · rw [if_neg hz] at h; omega
  · rw [if_neg he] at h; exact absurd h he

theorem Took.only {w w' : World} {b off : Nat} {s : ByteArray} {a : Nat} {e : Int} {m : List Bool} (h : Took w w' b off s a e m) : Only b off (off + 3) w w' := by
  obtain ⟨_, _, _, hO, _⟩ := h; exact hO

/-- A reading, then the laying of what it told. -/
theorem OneSt.step {w1 w2 w3 : World} {g : Nat} {s : ByteArray} {i a : Nat} {e : Int} {l laid : List Bool} (hR : Rd w1 g 0 s a e) (hE : e = 0 → l = (rb s).take a) (hl : l.length ≤ 80 * i) (hT : Took w1 w2 g 0 s a e laid)
    (hlaid : laid.length ≤ 80) (hW : Wr w3 (g + 2) (g + 1) 0 (l ++ laid) 0) (hO : Only (g + 1) 0 123 w2 w3) (hs : g + 2 ≤ w1.heap.size) : OneSt w3 g s (i + 1) := by
  obtain ⟨a', e1, hR2, hO2, hT2⟩ := hT
  refine ⟨a', e1, l ++ laid, hR2.other hO (by omega), hW, fun h => ?_, by simp; omega, Nat.le_trans hs (Nat.le_trans hO2.size hO.size)⟩
  obtain ⟨h0, h1⟩ := hT2 h
  rw [h1, hE h0]

set_option maxRecDepth 100000 in
set_option maxHeartbeats 8000000 in
theorem one_any (p0 p1 : Option Addr) (l0 c0 l1 c1 : Nat) (B0 B1 : List Nat) (a0 : Option Addr) (b off len cap : Nat) (d n m : Nat → Int) (x : Nat → Nat) (w : World)
    (hI0 : IsBy w (.slice p0 l0 c0) B0) (hI1 : IsBy w (.slice p1 l1 c1) B1) (hl0 : B0.length = l0) (hl1 : B1.length = l1) (hb0 : ∀ n ∈ B0, n < 256) (hb1 : ∀ n ∈ B1, n < 256)
    (hlen : len ≤ 9223372036854775807) (ha0 : 0 < len → a0 = some ⟨b, off, none⟩ ∧ b < w.heap.size) (hops : ∀ i, i < len → OpAt w b (off + i * 4) (d i) (n i) (m i) (x i)) :
    Calls Try.prog 6 #[.agg #[.slice p0 l0 c0, .slice p1 l1 c1, .slice a0 len cap]] w fun e w' => e = .returned (.bool true) ∧ Below w.heap.size w w' := by
  have HO : Hid (∀ i, i < len → OpAt w b (off + i * 4) (d i) (n i) (m i) (x i)) := hops
  have HA0 : Hid (0 < len → a0 = some ⟨b, off, none⟩ ∧ b < w.heap.size) := ha0
  have HI0 : Hid (IsBy w (.slice p0 l0 c0) B0 ∧ B0.length = l0 ∧ ∀ n ∈ B0, n < 256) := ⟨hI0, hl0, hb0⟩
  have HI1 : Hid (IsBy w (.slice p1 l1 c1) B1 ∧ B1.length = l1 ∧ ∀ n ∈ B1, n < 256) := ⟨hI1, hl1, hb1⟩
  clear hops ha0 hI0 hI1 hl0 hl1 hb0 hb1
  have nN : (w.alloc (.cells #[.slice p0 l0 c0, .slice p1 l1 c1, .slice a0 len cap] 76)).heap[w.heap.size]? = some (.cells #[.slice p0 l0 c0, .slice p1 l1 c1, .slice a0 len cap] 76 (0, 0)) := heap_alloc_new _ _
  have St0 : Hid ((w.alloc (.cells #[.slice p0 l0 c0, .slice p1 l1 c1, .slice a0 len cap] 76)).cell? ⟨w.heap.size, 0, none⟩ = some (.slice p0 l0 c0) ∧ (w.alloc (.cells #[.slice p0 l0 c0, .slice p1 l1 c1, .slice a0 len cap] 76)).cell? ⟨w.heap.size, 1, none⟩ = some (.slice p1 l1 c1) ∧ (w.alloc (.cells #[.slice p0 l0 c0, .slice p1 l1 c1, .slice a0 len cap] 76)).cell? ⟨w.heap.size, 2, none⟩ = some (.slice a0 len cap) ∧ Below w.heap.size w (w.alloc (.cells #[.slice p0 l0 c0, .slice p1 l1 c1, .slice a0 len cap] 76)) ∧ w.heap.size < (w.alloc (.cells #[.slice p0 l0 c0, .slice p1 l1 c1, .slice a0 len cap] 76)).heap.size) :=
    ⟨by rw [cell_of_row _ _ _ _ _ _ nN]; rfl, by rw [cell_of_row _ _ _ _ _ _ nN]; rfl, by rw [cell_of_row _ _ _ _ _ _ nN]; rfl, (Below.refl _ _).alloc (Nat.le_refl _) _, by simp⟩
  clear nN
  go_enter Try.func6, Try.ntmps6
  go_wp2
  go_loopw [3] (fun t3 wr => ∃ k : Nat, k ≤ 2 ∧ t3 = .int .i64 k ∧ Hid (wr.cell? ⟨w.heap.size, 0, none⟩ = some (.slice p0 l0 c0) ∧ wr.cell? ⟨w.heap.size, 1, none⟩ = some (.slice p1 l1 c1) ∧ wr.cell? ⟨w.heap.size, 2, none⟩ = some (.slice a0 len cap) ∧ Below w.heap.size w wr ∧ w.heap.size < wr.heap.size)) (fun t3 _ => 2 - (intOf t3).toNat)
  case atStart => exact ⟨0, by omega, rfl, St0⟩
  case round =>
    obtain ⟨k, hk, rfl, HP⟩ := hrel
    obtain ⟨q0, q1, q2, HB, hsz⟩ := HP.out
    clear HP St0
    rcases (show k = 0 ∨ k = 1 ∨ k = 2 from by omega) with rfl | rfl | rfl
    · by_cases hbig : 65536 < l0
      · have hbig' : (65536 : Int) < (l0 : Int) := by omega
        go_wp2_with fail
        refine (works_any _).mono ?_
        rintro e w1 ⟨rfl, B1⟩
        go_wp2_with fail
        go_ret
        exact ⟨rfl, HB.trans (B1.mono (by omega))⟩
      · have hbig' : ¬ (65536 : Int) < (l0 : Int) := by omega
        obtain ⟨hI, hl, hb256⟩ := HI0.out
        go_wp2_with fail
        refine (from_by wr _ B0 (isBy_wr hI HB)).mono ?_
        rintro e w1 ⟨rfl, hw1⟩
        have R1 : Rd w1 wr.heap.size 0 (strOf B0) 0 0 := by rw [hw1]; exact rd_new wr _ (by omega)
        have B1 : Below wr.heap.size wr w1 := by rw [hw1]; exact (Below.refl _ _).alloc (Nat.le_refl _) _
        have z1 : w1.heap.size = wr.heap.size + 1 := by rw [hw1]; simp
        clear hw1
        go_wp2_with fail
        have n2 : (w1.alloc (.cells Try.zeroCells27 27)).heap[w1.heap.size]? = some (.cells Try.zeroCells27 27 (0, 0)) := heap_alloc_new _ _
        have B2 : Below w1.heap.size w1 (w1.alloc (.cells Try.zeroCells27 27)) := (Below.refl _ _).alloc (Nat.le_refl _) _
        have z2 : (w1.alloc (.cells Try.zeroCells27 27)).heap.size = w1.heap.size + 1 := by simp
        generalize w1.alloc (.cells Try.zeroCells27 27) = w2 at *
        rw [z1] at n2 z2 B2
        have R2 : Rd w2 wr.heap.size 0 (strOf B0) 0 0 := R1.below B2 (by omega)
        have W2 : Wr w2 (wr.heap.size + 2) (wr.heap.size + 1) 0 [] 0 := wr_of n2
        have B3 : Below wr.heap.size wr w2 := B1.trans (B2.mono (by omega))
        have St : Hid (OneSt w2 wr.heap.size (strOf B0) 0 ∧ Below wr.heap.size wr w2) := ⟨⟨0, 0, [], R2, W2, fun _ => by simp, by simp, by omega⟩, B3⟩
        have hgN : w.heap.size < wr.heap.size := hsz
        have HQ : Hid (wr.cell? ⟨w.heap.size, 0, none⟩ = some (.slice p0 l0 c0) ∧ wr.cell? ⟨w.heap.size, 1, none⟩ = some (.slice p1 l1 c1) ∧ wr.cell? ⟨w.heap.size, 2, none⟩ = some (.slice a0 len cap) ∧ Below w.heap.size w wr ∧ w.heap.size < wr.heap.size) := ⟨q0, q1, q2, HB, hsz⟩
        clear R1 B1 z1 n2 B2 z2 R2 W2 B3 q0 q1 q2 HB hsz
        generalize hwr0 : wr = wr0 at *
        clear hwr0
        go_loopw [6] (fun t6 wr => ∃ i : Nat, i ≤ 400 ∧ t6 = .int .i64 i ∧ Hid (i ≤ len) ∧ Hid (OneSt wr wr0.heap.size (strOf B0) i ∧ Below wr0.heap.size wr0 wr)) (fun t6 _ => 400 - (intOf t6).toNat)
        case atStart => exact ⟨0, by omega, rfl, Nat.zero_le _, St⟩
        case round =>
          obtain ⟨i, hi, rfl, Hi, HS⟩ := hrel
          have r2 : wr.cell? ⟨w.heap.size, 2, none⟩ = some (.slice a0 len cap) := (HS.out.2.cell (p := ⟨w.heap.size, 2, none⟩) hgN).trans HQ.out.2.2.1
          by_cases hlt : i < len ∧ i < 400
          · obtain ⟨hi1, hi2⟩ := hlt
            obtain ⟨ha0, hb⟩ := HA0.out (by omega)
            subst ha0
            obtain ⟨o0, o1, o2, o3, bd, bn, bx, bm⟩ := HO.out i hi1
            have ec : ∀ j, wr.cell? ⟨b, off + i * 4 + j, none⟩ = w.cell? ⟨b, off + i * 4 + j, none⟩ := fun j => (HS.out.2.cell (p := ⟨b, off + i * 4 + j, none⟩) (by show b < _; omega)).trans (HQ.out.2.2.2.1.cell (p := ⟨b, off + i * 4 + j, none⟩) hb)
            have e0 := (ec 0).trans o0
            have e1 := (ec 1).trans o1
            have e2 := (ec 2).trans o2
            have e3 := (ec 3).trans o3
            rw [Nat.add_zero] at e0
            clear ec o0 o1 o2 o3
            generalize d i = dd at *
            generalize n i = nn at *
            generalize m i = mm at *
            generalize x i = xx at *
            have So := HS.out.1.below ((Below.refl _ wr).alloc (Nat.le_refl _) (.cells #[.int .i64 dd, .int .i64 nn, .int .u64 xx, .int .i64 mm] 65))
            have Bo : Below wr0.heap.size wr0 (wr.alloc (.cells #[.int .i64 dd, .int .i64 nn, .int .u64 xx, .int .i64 mm] 65)) := HS.out.2.alloc HS.out.2.size _
            have n3 : (wr.alloc (.cells #[.int .i64 dd, .int .i64 nn, .int .u64 xx, .int .i64 mm] 65)).cell? ⟨wr.heap.size, 3, none⟩ = some (.int .i64 mm) := by rw [cell_of_row _ _ _ _ _ _ (heap_alloc_new _ _)]; rfl
            obtain ⟨a, e, l, hR, hW, hE, hl, hs⟩ := So
            have hwg : wr0.heap.size + 2 ≤ wr.heap.size := by obtain ⟨_, _, _, _, _, _, _, h⟩ := HS.out.1; exact h
            clear HS
            by_cases h1 : dd = 1
            · subst h1
              go_wp2_with fail
              generalize wr.alloc (.cells #[.int .i64 1, .int .i64 nn, .int .u64 xx, .int .i64 mm] 65) = wo at *
              refine (rd_bit wr0.heap.size 0 (strOf B0) a e wo hR).mono ?_
              rintro _ w5 ⟨v, rfl, hT⟩
              have O5 := hT.only
              have W5 := hW.other O5 (by omega) (by omega)
              have s5 := Nat.le_trans hs O5.size
              have B5 := Bo.trans (O5.below (Nat.le_refl _) (by omega))
              go_wp2_with fail
              refine (wbit_any (wr0.heap.size + 1) 0 (wr0.heap.size + 2) v w5 l W5 (by omega) s5 (by omega)).mono ?_
              rintro _ w6 ⟨rfl, W6, O6⟩
              have St6 : Hid (OneSt w6 wr0.heap.size (strOf B0) (i + 1) ∧ Below wr0.heap.size wr0 w6) := ⟨OneSt.step hR hE hl hT (by simp) W6 O6 hs, B5.trans (O6.below (by omega : wr0.heap.size ≤ wr0.heap.size + 1) (by omega))⟩
              clear hT O5 W5 s5 B5 W6 O6 hR hW hE hl hs Bo
              go_wp2_with fail
              refine ⟨⟨i + 1, by omega, by go_num, hi1, St6⟩, by simp [intOf]; omega⟩
            have t1 : (dd == 1) = false := by rw [beq_eq_false_iff_ne]; exact h1
            by_cases h2 : dd = 2
            · subst h2
              by_cases hm0 : 0 ≤ mm
              · by_cases hm64 : mm ≤ 64
                · obtain ⟨M, rfl⟩ : ∃ M : Nat, mm = (M : Int) := ⟨mm.toNat, by omega⟩
                  have hM : M ≤ 64 := by omega
                  go_wp2_with fail
                  generalize wr.alloc (.cells #[.int .i64 2, .int .i64 nn, .int .u64 xx, .int .i64 (M : Int)] 65) = wo at *
                  have hne1 : wr.heap.size ≠ wr0.heap.size + 1 := by omega
                  have hne2 : wr.heap.size ≠ wr0.heap.size := by omega
                  have hRd : Rd wo.drew wr0.heap.size 0 (strOf B0) a e := hR.drewN 1
                  have hWd : Wr wo.drew (wr0.heap.size + 2) (wr0.heap.size + 1) 0 l 0 := hW.below ⟨rfl, rfl, rfl, Nat.le_refl _, fun _ _ => rfl⟩
                  have hsd : wr0.heap.size + 2 ≤ wo.drew.heap.size := hs
                  have Bd : Below wr0.heap.size wr0 wo.drew := Bo.drew
                  go_region_held3 (fun w' => w'.cell? ⟨wr.heap.size, 3, none⟩ = some (.int .i64 (M : Int))) (first | exact n3 | exact O6.keep hne1 (hT5.only.keep hne2 n3) | exact hT5.only.keep hne2 n3)
                    (first
                      | (go_at_call 33; refine (rd_bits wr0.heap.size 0 (strOf B0) a M e _ hRd hM).mono ?_; rintro _ w5 ⟨x5, rfl, hx5, hT5⟩)
                      | (go_at_call 32; refine (wbits_any (wr0.heap.size + 1) 0 (wr0.heap.size + 2) M x5 _ l (hWd.other hT5.only (by omega) (by omega)) (by omega) (Nat.le_trans hsd hT5.only.size) (by omega) hM (lt64 x5 M hM hx5) hx5).mono ?_; rintro _ w6 ⟨rfl, W6, O6⟩))
                  have St6 : Hid (OneSt w6 wr0.heap.size (strOf B0) (i + 1) ∧ Below wr0.heap.size wr0 w6) := ⟨OneSt.step hRd hE hl hT5 (by simp; omega) W6 O6 hsd, (Bd.trans (hT5.only.below (Nat.le_refl _) (by omega))).trans (O6.below (by omega : wr0.heap.size ≤ wr0.heap.size + 1) (by have := hT5.only.size; omega))⟩
                  clear hT5 W6 O6 hR hW hE hl hs Bo hRd hWd hsd Bd
                  go_wp2_with fail
                  refine ⟨⟨i + 1, by omega, by go_num, hi1, St6⟩, by simp [intOf]; omega⟩
                · have hm64' : ¬ mm ≤ 64 := hm64
                  have St6 : Hid (OneSt (wr.alloc (.cells #[.int .i64 2, .int .i64 nn, .int .u64 xx, .int .i64 mm] 65)) wr0.heap.size (strOf B0) (i + 1) ∧ Below wr0.heap.size wr0 (wr.alloc (.cells #[.int .i64 2, .int .i64 nn, .int .u64 xx, .int .i64 mm] 65))) := ⟨⟨a, e, l, hR, hW, hE, by omega, hs⟩, Bo⟩
                  go_wp2_with fail
                  refine ⟨⟨i + 1, by omega, by go_num, hi1, St6⟩, by simp [intOf]; omega⟩
              · have hm0' : ¬ 0 ≤ mm := hm0
                have St6 : Hid (OneSt (wr.alloc (.cells #[.int .i64 2, .int .i64 nn, .int .u64 xx, .int .i64 mm] 65)) wr0.heap.size (strOf B0) (i + 1) ∧ Below wr0.heap.size wr0 (wr.alloc (.cells #[.int .i64 2, .int .i64 nn, .int .u64 xx, .int .i64 mm] 65))) := ⟨⟨a, e, l, hR, hW, hE, by omega, hs⟩, Bo⟩
                go_wp2_with fail
                refine ⟨⟨i + 1, by omega, by go_num, hi1, St6⟩, by simp [intOf]; omega⟩
            have t2 : (dd == 2) = false := by rw [beq_eq_false_iff_ne]; exact h2
            by_cases h3 : dd = 3
            · subst h3
              go_wp2_with fail
              generalize wr.alloc (.cells #[.int .i64 3, .int .i64 nn, .int .u64 xx, .int .i64 mm] 65) = wo at *
              refine (rd_unary wr0.heap.size 0 (strOf B0) a e wo hR).mono ?_
              rintro _ w5 ⟨kk, rfl, hkk, hT⟩
              have O5 := hT.only
              have W5 := hW.other O5 (by omega) (by omega)
              have s5 := Nat.le_trans hs O5.size
              have B5 := Bo.trans (O5.below (Nat.le_refl _) (by omega))
              go_wp2_with fail
              refine (wunary_any (wr0.heap.size + 1) 0 (wr0.heap.size + 2) kk w5 l W5 (by omega) s5 (by omega) hkk).mono ?_
              rintro _ w6 ⟨rfl, W6, O6⟩
              have St6 : Hid (OneSt w6 wr0.heap.size (strOf B0) (i + 1) ∧ Below wr0.heap.size wr0 w6) := ⟨OneSt.step hR hE hl hT (by simp; omega) W6 O6 hs, B5.trans (O6.below (by omega : wr0.heap.size ≤ wr0.heap.size + 1) (by omega))⟩
              clear hT O5 W5 s5 B5 W6 O6 hR hW hE hl hs Bo
              go_wp2_with fail
              refine ⟨⟨i + 1, by omega, by go_num, hi1, St6⟩, by simp [intOf]; omega⟩
            have t3 : (dd == 3) = false := by rw [beq_eq_false_iff_ne]; exact h3
            by_cases h4 : dd = 4
            · subst h4
              go_wp2_with fail
              generalize wr.alloc (.cells #[.int .i64 4, .int .i64 nn, .int .u64 xx, .int .i64 mm] 65) = wo at *
              refine (rd_var wr0.heap.size 0 (strOf B0) a e wo hR).mono ?_
              rintro _ w5 ⟨xv, rfl, hxv, hT⟩
              have O5 := hT.only
              have W5 := hW.other O5 (by omega) (by omega)
              have s5 := Nat.le_trans hs O5.size
              have B5 := Bo.trans (O5.below (Nat.le_refl _) (by omega))
              go_wp2_with fail
              refine (wvar_any (wr0.heap.size + 1) 0 (wr0.heap.size + 2) xv w5 l W5 (by omega) s5 (by omega) hxv).mono ?_
              rintro _ w6 ⟨rfl, W6, O6⟩
              have St6 : Hid (OneSt w6 wr0.heap.size (strOf B0) (i + 1) ∧ Below wr0.heap.size wr0 w6) := ⟨OneSt.step hR hE hl hT (varB_le _) W6 O6 hs, B5.trans (O6.below (by omega : wr0.heap.size ≤ wr0.heap.size + 1) (by omega))⟩
              clear hT O5 W5 s5 B5 W6 O6 hR hW hE hl hs Bo
              go_wp2_with fail
              refine ⟨⟨i + 1, by omega, by go_num, hi1, St6⟩, by simp [intOf]; omega⟩
            have t4 : (dd == 4) = false := by rw [beq_eq_false_iff_ne]; exact h4
            by_cases h5 : dd = 5
            · subst h5
              go_wp2_with fail
              generalize wr.alloc (.cells #[.int .i64 5, .int .i64 nn, .int .u64 xx, .int .i64 mm] 65) = wo at *
              refine (rd_zig wr0.heap.size 0 (strOf B0) a e wo hR).mono ?_
              rintro _ w5 ⟨yv, rfl, hyv, hT⟩
              have O5 := hT.only
              have W5 := hW.other O5 (by omega) (by omega)
              have s5 := Nat.le_trans hs O5.size
              have B5 := Bo.trans (O5.below (Nat.le_refl _) (by omega))
              go_wp2_with fail
              refine (wzig_any (wr0.heap.size + 1) 0 (wr0.heap.size + 2) yv w5 l W5 (by omega) s5 (by omega) hyv.1 hyv.2).mono ?_
              rintro _ w6 ⟨rfl, W6, O6⟩
              have St6 : Hid (OneSt w6 wr0.heap.size (strOf B0) (i + 1) ∧ Below wr0.heap.size wr0 w6) := ⟨OneSt.step hR hE hl hT (varB_le _) W6 O6 hs, B5.trans (O6.below (by omega : wr0.heap.size ≤ wr0.heap.size + 1) (by omega))⟩
              clear hT O5 W5 s5 B5 W6 O6 hR hW hE hl hs Bo
              go_wp2_with fail
              refine ⟨⟨i + 1, by omega, by go_num, hi1, St6⟩, by simp [intOf]; omega⟩
            have t5 : (dd == 5) = false := by rw [beq_eq_false_iff_ne]; exact h5
            have St6 : Hid (OneSt (wr.alloc (.cells #[.int .i64 dd, .int .i64 nn, .int .u64 xx, .int .i64 mm] 65)) wr0.heap.size (strOf B0) (i + 1) ∧ Below wr0.heap.size wr0 (wr.alloc (.cells #[.int .i64 dd, .int .i64 nn, .int .u64 xx, .int .i64 mm] 65))) := ⟨⟨a, e, l, hR, hW, hE, by omega, hs⟩, Bo⟩
            go_wp2_with fail
            refine ⟨⟨i + 1, by omega, by go_num, hi1, St6⟩, by simp [intOf]; omega⟩
          · by_cases hi1 : i < len
            · have hi2 : ¬ i < 400 := by omega
              go_wp2_with fail
              obtain ⟨a, e, l, hR, hW, hE, hl, hs⟩ := HS.out.1
              have Bw := HS.out.2
              clear HS
              obtain ⟨bs, Hbs⟩ : ∃ bs, Hid (packed l = bs) := ⟨_, rfl⟩
              refine (wdone_packed (wr0.heap.size + 1) 0 (wr0.heap.size + 2) wr l hW hs (by omega) bs Hbs.out).mono ?_
              rintro _ w3 ⟨rfl, G3, B3⟩
              have R3 := hR.below B3 (by omega)
              have I3 : IsBytes w3 (.slice (some ⟨wr.heap.size, 0, none⟩) bs.length bs.length) bs := isBytes_row G3
              have C3 : Below wr0.heap.size wr0 w3 := Bw.trans (B3.mono (by omega))
              have J3 : IsBy w3 (.slice p0 l0 c0) B0 := isBy_below (isBy_below hI HQ.out.2.2.2.1) (C3.mono (Nat.le_refl _))
              have r3 : w3.cell? ⟨w.heap.size, 0, none⟩ = some (.slice p0 l0 c0) := (C3.cell (p := ⟨w.heap.size, 0, none⟩) hgN).trans HQ.out.1
              have hcvb : ∀ n, (convert 29 9 (.slice (some ⟨wr.heap.size, 0, none⟩) bs.length bs.length)).run Try.prog (w3.drewN n) = .ok (.string (strOf bs)) (w3.drewN n) := fun n => convert_bytes (w3.drewN n) _ _ I3
              have hcvp : ∀ n, (convert 29 9 (.slice p0 l0 c0)).run Try.prog (w3.drewN n) = .ok (.string (strOf B0)) (w3.drewN n) := fun n => convert_by (w3.drewN n) _ _ J3
              have hend := fun n => rend_any wr0.heap.size 0 (strOf B0) a e (w3.drewN n) (R3.drewN n)
              obtain ⟨E, hEE⟩ : ∃ E, endE (strOf B0) a e = E := ⟨_, rfl⟩
              simp only [hEE] at hend
              have HEnd : Hid (∀ n, Calls Try.prog 24 #[.pointer (some ⟨wr0.heap.size, 0, none⟩)] (w3.drewN n) fun e w' => e = .returned (.int .i64 E) ∧ ∃ m, w' = (w3.drewN n).drewN m) := hend
              have HN : Hid (w3.cell? ⟨w.heap.size, 0, none⟩ = some (.slice p0 l0 c0) ∧ w3.cell? ⟨w.heap.size, 1, none⟩ = some (.slice p1 l1 c1) ∧ w3.cell? ⟨w.heap.size, 2, none⟩ = some (.slice a0 len cap) ∧ Below w.heap.size w w3 ∧ w.heap.size < w3.heap.size) :=
                ⟨(C3.cell (p := ⟨w.heap.size, 0, none⟩) hgN).trans HQ.out.1, (C3.cell (p := ⟨w.heap.size, 1, none⟩) hgN).trans HQ.out.2.1, (C3.cell (p := ⟨w.heap.size, 2, none⟩) hgN).trans HQ.out.2.2.1, HQ.out.2.2.2.1.trans (C3.mono (by omega)), Nat.lt_of_lt_of_le hgN C3.size⟩
              by_cases hE0 : E = 0
              · have hfin : bs = B0 := by
                  rw [← Hbs.out]
                  exact one_end B0 hb256 a e l R3.le hE (hEE.trans hE0)
                have hEb : (E == 0) = true := by rw [beq_iff_eq]; exact hE0
                have hstr : strOf bs = strOf B0 := by rw [hfin]
                have hcvb2 : ∀ n, (convert 29 9 (.slice (some ⟨wr.heap.size, 0, none⟩) bs.length bs.length)).run Try.prog (w3.drewN n) = .ok (.string (strOf B0)) (w3.drewN n) := fun n => (hcvb n).trans (by rw [hstr])
                clear hend hEE hE0 hfin hE hcvb hstr
                go_wp2_with fail
                go_quiet (first | (go_at_call 23; exact Calls.quiet_of_same (num_any _ _)) | (go_at_call 24; exact quietN (HEnd.out _)))
                go_wp2_with fail
                refine ⟨⟨0 + 1, by omega, rfl, ⟨HN.out.1, HN.out.2.1, HN.out.2.2.1, ⟨HN.out.2.2.2.1.os, HN.out.2.2.2.1.tape, HN.out.2.2.2.1.output, HN.out.2.2.2.1.size, HN.out.2.2.2.1.block⟩, HN.out.2.2.2.2⟩⟩, by simp [intOf]⟩
              · have hEb : (E == 0) = false := by rw [beq_eq_false_iff_ne]; exact hE0
                clear hend hEE hE0 hE
                go_wp2_with fail
                go_quiet (first | (go_at_call 23; exact Calls.quiet_of_same (num_any _ _)) | (go_at_call 24; exact quietN (HEnd.out _)))
                go_wp2_with fail
                refine ⟨⟨0 + 1, by omega, rfl, ⟨HN.out.1, HN.out.2.1, HN.out.2.2.1, ⟨HN.out.2.2.2.1.os, HN.out.2.2.2.1.tape, HN.out.2.2.2.1.output, HN.out.2.2.2.1.size, HN.out.2.2.2.1.block⟩, HN.out.2.2.2.2⟩⟩, by simp [intOf]⟩
            · go_wp2_with fail
              obtain ⟨a, e, l, hR, hW, hE, hl, hs⟩ := HS.out.1
              have Bw := HS.out.2
              clear HS
              obtain ⟨bs, Hbs⟩ : ∃ bs, Hid (packed l = bs) := ⟨_, rfl⟩
              refine (wdone_packed (wr0.heap.size + 1) 0 (wr0.heap.size + 2) wr l hW hs (by omega) bs Hbs.out).mono ?_
              rintro _ w3 ⟨rfl, G3, B3⟩
              have R3 := hR.below B3 (by omega)
              have I3 : IsBytes w3 (.slice (some ⟨wr.heap.size, 0, none⟩) bs.length bs.length) bs := isBytes_row G3
              have C3 : Below wr0.heap.size wr0 w3 := Bw.trans (B3.mono (by omega))
              have J3 : IsBy w3 (.slice p0 l0 c0) B0 := isBy_below (isBy_below hI HQ.out.2.2.2.1) (C3.mono (Nat.le_refl _))
              have r3 : w3.cell? ⟨w.heap.size, 0, none⟩ = some (.slice p0 l0 c0) := (C3.cell (p := ⟨w.heap.size, 0, none⟩) hgN).trans HQ.out.1
              have hcvb : ∀ n, (convert 29 9 (.slice (some ⟨wr.heap.size, 0, none⟩) bs.length bs.length)).run Try.prog (w3.drewN n) = .ok (.string (strOf bs)) (w3.drewN n) := fun n => convert_bytes (w3.drewN n) _ _ I3
              have hcvp : ∀ n, (convert 29 9 (.slice p0 l0 c0)).run Try.prog (w3.drewN n) = .ok (.string (strOf B0)) (w3.drewN n) := fun n => convert_by (w3.drewN n) _ _ J3
              have hend := fun n => rend_any wr0.heap.size 0 (strOf B0) a e (w3.drewN n) (R3.drewN n)
              obtain ⟨E, hEE⟩ : ∃ E, endE (strOf B0) a e = E := ⟨_, rfl⟩
              simp only [hEE] at hend
              have HEnd : Hid (∀ n, Calls Try.prog 24 #[.pointer (some ⟨wr0.heap.size, 0, none⟩)] (w3.drewN n) fun e w' => e = .returned (.int .i64 E) ∧ ∃ m, w' = (w3.drewN n).drewN m) := hend
              have HN : Hid (w3.cell? ⟨w.heap.size, 0, none⟩ = some (.slice p0 l0 c0) ∧ w3.cell? ⟨w.heap.size, 1, none⟩ = some (.slice p1 l1 c1) ∧ w3.cell? ⟨w.heap.size, 2, none⟩ = some (.slice a0 len cap) ∧ Below w.heap.size w w3 ∧ w.heap.size < w3.heap.size) :=
                ⟨(C3.cell (p := ⟨w.heap.size, 0, none⟩) hgN).trans HQ.out.1, (C3.cell (p := ⟨w.heap.size, 1, none⟩) hgN).trans HQ.out.2.1, (C3.cell (p := ⟨w.heap.size, 2, none⟩) hgN).trans HQ.out.2.2.1, HQ.out.2.2.2.1.trans (C3.mono (by omega)), Nat.lt_of_lt_of_le hgN C3.size⟩
              by_cases hE0 : E = 0
              · have hfin : bs = B0 := by
                  rw [← Hbs.out]
                  exact one_end B0 hb256 a e l R3.le hE (hEE.trans hE0)
                have hEb : (E == 0) = true := by rw [beq_iff_eq]; exact hE0
                have hstr : strOf bs = strOf B0 := by rw [hfin]
                have hcvb2 : ∀ n, (convert 29 9 (.slice (some ⟨wr.heap.size, 0, none⟩) bs.length bs.length)).run Try.prog (w3.drewN n) = .ok (.string (strOf B0)) (w3.drewN n) := fun n => (hcvb n).trans (by rw [hstr])
                clear hend hEE hE0 hfin hE hcvb hstr
                go_wp2_with fail
                go_quiet (first | (go_at_call 23; exact Calls.quiet_of_same (num_any _ _)) | (go_at_call 24; exact quietN (HEnd.out _)))
                go_wp2_with fail
                refine ⟨⟨0 + 1, by omega, rfl, ⟨HN.out.1, HN.out.2.1, HN.out.2.2.1, ⟨HN.out.2.2.2.1.os, HN.out.2.2.2.1.tape, HN.out.2.2.2.1.output, HN.out.2.2.2.1.size, HN.out.2.2.2.1.block⟩, HN.out.2.2.2.2⟩⟩, by simp [intOf]⟩
              · have hEb : (E == 0) = false := by rw [beq_eq_false_iff_ne]; exact hE0
                clear hend hEE hE0 hE
                go_wp2_with fail
                go_quiet (first | (go_at_call 23; exact Calls.quiet_of_same (num_any _ _)) | (go_at_call 24; exact quietN (HEnd.out _)))
                go_wp2_with fail
                refine ⟨⟨0 + 1, by omega, rfl, ⟨HN.out.1, HN.out.2.1, HN.out.2.2.1, ⟨HN.out.2.2.2.1.os, HN.out.2.2.2.1.tape, HN.out.2.2.2.1.output, HN.out.2.2.2.1.size, HN.out.2.2.2.1.block⟩, HN.out.2.2.2.2⟩⟩, by simp [intOf]⟩

    · by_cases hbig : 65536 < l1
      · have hbig' : (65536 : Int) < (l1 : Int) := by omega
        go_wp2_with fail
        refine (works_any _).mono ?_
        rintro e w1 ⟨rfl, B1⟩
        go_wp2_with fail
        go_ret
        exact ⟨rfl, HB.trans (B1.mono (by omega))⟩
      · have hbig' : ¬ (65536 : Int) < (l1 : Int) := by omega
        obtain ⟨hI, hl, hb256⟩ := HI1.out
        go_wp2_with fail
        refine (from_by wr _ B1 (isBy_wr hI HB)).mono ?_
        rintro e w1 ⟨rfl, hw1⟩
        have R1 : Rd w1 wr.heap.size 0 (strOf B1) 0 0 := by rw [hw1]; exact rd_new wr _ (by omega)
        have B1b : Below wr.heap.size wr w1 := by rw [hw1]; exact (Below.refl _ _).alloc (Nat.le_refl _) _
        have z1 : w1.heap.size = wr.heap.size + 1 := by rw [hw1]; simp
        clear hw1
        go_wp2_with fail
        have n2 : (w1.alloc (.cells Try.zeroCells27 27)).heap[w1.heap.size]? = some (.cells Try.zeroCells27 27 (0, 0)) := heap_alloc_new _ _
        have B2 : Below w1.heap.size w1 (w1.alloc (.cells Try.zeroCells27 27)) := (Below.refl _ _).alloc (Nat.le_refl _) _
        have z2 : (w1.alloc (.cells Try.zeroCells27 27)).heap.size = w1.heap.size + 1 := by simp
        generalize w1.alloc (.cells Try.zeroCells27 27) = w2 at *
        rw [z1] at n2 z2 B2
        have R2 : Rd w2 wr.heap.size 0 (strOf B1) 0 0 := R1.below B2 (by omega)
        have W2 : Wr w2 (wr.heap.size + 2) (wr.heap.size + 1) 0 [] 0 := wr_of n2
        have B3 : Below wr.heap.size wr w2 := B1b.trans (B2.mono (by omega))
        have St : Hid (OneSt w2 wr.heap.size (strOf B1) 0 ∧ Below wr.heap.size wr w2) := ⟨⟨0, 0, [], R2, W2, fun _ => by simp, by simp, by omega⟩, B3⟩
        have hgN : w.heap.size < wr.heap.size := hsz
        have HQ : Hid (wr.cell? ⟨w.heap.size, 0, none⟩ = some (.slice p0 l0 c0) ∧ wr.cell? ⟨w.heap.size, 1, none⟩ = some (.slice p1 l1 c1) ∧ wr.cell? ⟨w.heap.size, 2, none⟩ = some (.slice a0 len cap) ∧ Below w.heap.size w wr ∧ w.heap.size < wr.heap.size) := ⟨q0, q1, q2, HB, hsz⟩
        clear R1 B1b z1 n2 B2 z2 R2 W2 B3 q0 q1 q2 HB hsz
        generalize hwr0 : wr = wr0 at *
        clear hwr0
        go_loopw [6] (fun t6 wr => ∃ i : Nat, i ≤ 400 ∧ t6 = .int .i64 i ∧ Hid (i ≤ len) ∧ Hid (OneSt wr wr0.heap.size (strOf B1) i ∧ Below wr0.heap.size wr0 wr)) (fun t6 _ => 400 - (intOf t6).toNat)
        case atStart => exact ⟨0, by omega, rfl, Nat.zero_le _, St⟩
        case round =>
          obtain ⟨i, hi, rfl, Hi, HS⟩ := hrel
          have r2 : wr.cell? ⟨w.heap.size, 2, none⟩ = some (.slice a0 len cap) := (HS.out.2.cell (p := ⟨w.heap.size, 2, none⟩) hgN).trans HQ.out.2.2.1
          by_cases hlt : i < len ∧ i < 400
          · obtain ⟨hi1, hi2⟩ := hlt
            obtain ⟨ha0, hb⟩ := HA0.out (by omega)
            subst ha0
            obtain ⟨o0, o1, o2, o3, bd, bn, bx, bm⟩ := HO.out i hi1
            have ec : ∀ j, wr.cell? ⟨b, off + i * 4 + j, none⟩ = w.cell? ⟨b, off + i * 4 + j, none⟩ := fun j => (HS.out.2.cell (p := ⟨b, off + i * 4 + j, none⟩) (by show b < _; omega)).trans (HQ.out.2.2.2.1.cell (p := ⟨b, off + i * 4 + j, none⟩) hb)
            have e0 := (ec 0).trans o0
            have e1 := (ec 1).trans o1
            have e2 := (ec 2).trans o2
            have e3 := (ec 3).trans o3
            rw [Nat.add_zero] at e0
            clear ec o0 o1 o2 o3
            generalize d i = dd at *
            generalize n i = nn at *
            generalize m i = mm at *
            generalize x i = xx at *
            have So := HS.out.1.below ((Below.refl _ wr).alloc (Nat.le_refl _) (.cells #[.int .i64 dd, .int .i64 nn, .int .u64 xx, .int .i64 mm] 65))
            have Bo : Below wr0.heap.size wr0 (wr.alloc (.cells #[.int .i64 dd, .int .i64 nn, .int .u64 xx, .int .i64 mm] 65)) := HS.out.2.alloc HS.out.2.size _
            have n3 : (wr.alloc (.cells #[.int .i64 dd, .int .i64 nn, .int .u64 xx, .int .i64 mm] 65)).cell? ⟨wr.heap.size, 3, none⟩ = some (.int .i64 mm) := by rw [cell_of_row _ _ _ _ _ _ (heap_alloc_new _ _)]; rfl
            obtain ⟨a, e, l, hR, hW, hE, hl, hs⟩ := So
            have hwg : wr0.heap.size + 2 ≤ wr.heap.size := by obtain ⟨_, _, _, _, _, _, _, h⟩ := HS.out.1; exact h
            clear HS
            by_cases h1 : dd = 1
            · subst h1
              go_wp2_with fail
              generalize wr.alloc (.cells #[.int .i64 1, .int .i64 nn, .int .u64 xx, .int .i64 mm] 65) = wo at *
              refine (rd_bit wr0.heap.size 0 (strOf B1) a e wo hR).mono ?_
              rintro _ w5 ⟨v, rfl, hT⟩
              have O5 := hT.only
              have W5 := hW.other O5 (by omega) (by omega)
              have s5 := Nat.le_trans hs O5.size
              have B5 := Bo.trans (O5.below (Nat.le_refl _) (by omega))
              go_wp2_with fail
              refine (wbit_any (wr0.heap.size + 1) 0 (wr0.heap.size + 2) v w5 l W5 (by omega) s5 (by omega)).mono ?_
              rintro _ w6 ⟨rfl, W6, O6⟩
              have St6 : Hid (OneSt w6 wr0.heap.size (strOf B1) (i + 1) ∧ Below wr0.heap.size wr0 w6) := ⟨OneSt.step hR hE hl hT (by simp) W6 O6 hs, B5.trans (O6.below (by omega : wr0.heap.size ≤ wr0.heap.size + 1) (by omega))⟩
              clear hT O5 W5 s5 B5 W6 O6 hR hW hE hl hs Bo
              go_wp2_with fail
              refine ⟨⟨i + 1, by omega, by go_num, hi1, St6⟩, by simp [intOf]; omega⟩
            have t1 : (dd == 1) = false := by rw [beq_eq_false_iff_ne]; exact h1
            by_cases h2 : dd = 2
            · subst h2
              by_cases hm0 : 0 ≤ mm
              · by_cases hm64 : mm ≤ 64
                · obtain ⟨M, rfl⟩ : ∃ M : Nat, mm = (M : Int) := ⟨mm.toNat, by omega⟩
                  have hM : M ≤ 64 := by omega
                  go_wp2_with fail
                  generalize wr.alloc (.cells #[.int .i64 2, .int .i64 nn, .int .u64 xx, .int .i64 (M : Int)] 65) = wo at *
                  have hne1 : wr.heap.size ≠ wr0.heap.size + 1 := by omega
                  have hne2 : wr.heap.size ≠ wr0.heap.size := by omega
                  have hRd : Rd wo.drew wr0.heap.size 0 (strOf B1) a e := hR.drewN 1
                  have hWd : Wr wo.drew (wr0.heap.size + 2) (wr0.heap.size + 1) 0 l 0 := hW.below ⟨rfl, rfl, rfl, Nat.le_refl _, fun _ _ => rfl⟩
                  have hsd : wr0.heap.size + 2 ≤ wo.drew.heap.size := hs
                  have Bd : Below wr0.heap.size wr0 wo.drew := Bo.drew
                  go_region_held3 (fun w' => w'.cell? ⟨wr.heap.size, 3, none⟩ = some (.int .i64 (M : Int))) (first | exact n3 | exact O6.keep hne1 (hT5.only.keep hne2 n3) | exact hT5.only.keep hne2 n3)
                    (first
                      | (go_at_call 33; refine (rd_bits wr0.heap.size 0 (strOf B1) a M e _ hRd hM).mono ?_; rintro _ w5 ⟨x5, rfl, hx5, hT5⟩)
                      | (go_at_call 32; refine (wbits_any (wr0.heap.size + 1) 0 (wr0.heap.size + 2) M x5 _ l (hWd.other hT5.only (by omega) (by omega)) (by omega) (Nat.le_trans hsd hT5.only.size) (by omega) hM (lt64 x5 M hM hx5) hx5).mono ?_; rintro _ w6 ⟨rfl, W6, O6⟩))
                  have St6 : Hid (OneSt w6 wr0.heap.size (strOf B1) (i + 1) ∧ Below wr0.heap.size wr0 w6) := ⟨OneSt.step hRd hE hl hT5 (by simp; omega) W6 O6 hsd, (Bd.trans (hT5.only.below (Nat.le_refl _) (by omega))).trans (O6.below (by omega : wr0.heap.size ≤ wr0.heap.size + 1) (by have := hT5.only.size; omega))⟩
                  clear hT5 W6 O6 hR hW hE hl hs Bo hRd hWd hsd Bd
                  go_wp2_with fail
                  refine ⟨⟨i + 1, by omega, by go_num, hi1, St6⟩, by simp [intOf]; omega⟩
                · have hm64' : ¬ mm ≤ 64 := hm64
                  have St6 : Hid (OneSt (wr.alloc (.cells #[.int .i64 2, .int .i64 nn, .int .u64 xx, .int .i64 mm] 65)) wr0.heap.size (strOf B1) (i + 1) ∧ Below wr0.heap.size wr0 (wr.alloc (.cells #[.int .i64 2, .int .i64 nn, .int .u64 xx, .int .i64 mm] 65))) := ⟨⟨a, e, l, hR, hW, hE, by omega, hs⟩, Bo⟩
                  go_wp2_with fail
                  refine ⟨⟨i + 1, by omega, by go_num, hi1, St6⟩, by simp [intOf]; omega⟩
              · have hm0' : ¬ 0 ≤ mm := hm0
                have St6 : Hid (OneSt (wr.alloc (.cells #[.int .i64 2, .int .i64 nn, .int .u64 xx, .int .i64 mm] 65)) wr0.heap.size (strOf B1) (i + 1) ∧ Below wr0.heap.size wr0 (wr.alloc (.cells #[.int .i64 2, .int .i64 nn, .int .u64 xx, .int .i64 mm] 65))) := ⟨⟨a, e, l, hR, hW, hE, by omega, hs⟩, Bo⟩
                go_wp2_with fail
                refine ⟨⟨i + 1, by omega, by go_num, hi1, St6⟩, by simp [intOf]; omega⟩
            have t2 : (dd == 2) = false := by rw [beq_eq_false_iff_ne]; exact h2
            by_cases h3 : dd = 3
            · subst h3
              go_wp2_with fail
              generalize wr.alloc (.cells #[.int .i64 3, .int .i64 nn, .int .u64 xx, .int .i64 mm] 65) = wo at *
              refine (rd_unary wr0.heap.size 0 (strOf B1) a e wo hR).mono ?_
              rintro _ w5 ⟨kk, rfl, hkk, hT⟩
              have O5 := hT.only
              have W5 := hW.other O5 (by omega) (by omega)
              have s5 := Nat.le_trans hs O5.size
              have B5 := Bo.trans (O5.below (Nat.le_refl _) (by omega))
              go_wp2_with fail
              refine (wunary_any (wr0.heap.size + 1) 0 (wr0.heap.size + 2) kk w5 l W5 (by omega) s5 (by omega) hkk).mono ?_
              rintro _ w6 ⟨rfl, W6, O6⟩
              have St6 : Hid (OneSt w6 wr0.heap.size (strOf B1) (i + 1) ∧ Below wr0.heap.size wr0 w6) := ⟨OneSt.step hR hE hl hT (by simp; omega) W6 O6 hs, B5.trans (O6.below (by omega : wr0.heap.size ≤ wr0.heap.size + 1) (by omega))⟩
              clear hT O5 W5 s5 B5 W6 O6 hR hW hE hl hs Bo
              go_wp2_with fail
              refine ⟨⟨i + 1, by omega, by go_num, hi1, St6⟩, by simp [intOf]; omega⟩
            have t3 : (dd == 3) = false := by rw [beq_eq_false_iff_ne]; exact h3
            by_cases h4 : dd = 4
            · subst h4
              go_wp2_with fail
              generalize wr.alloc (.cells #[.int .i64 4, .int .i64 nn, .int .u64 xx, .int .i64 mm] 65) = wo at *
              refine (rd_var wr0.heap.size 0 (strOf B1) a e wo hR).mono ?_
              rintro _ w5 ⟨xv, rfl, hxv, hT⟩
              have O5 := hT.only
              have W5 := hW.other O5 (by omega) (by omega)
              have s5 := Nat.le_trans hs O5.size
              have B5 := Bo.trans (O5.below (Nat.le_refl _) (by omega))
              go_wp2_with fail
              refine (wvar_any (wr0.heap.size + 1) 0 (wr0.heap.size + 2) xv w5 l W5 (by omega) s5 (by omega) hxv).mono ?_
              rintro _ w6 ⟨rfl, W6, O6⟩
              have St6 : Hid (OneSt w6 wr0.heap.size (strOf B1) (i + 1) ∧ Below wr0.heap.size wr0 w6) := ⟨OneSt.step hR hE hl hT (varB_le _) W6 O6 hs, B5.trans (O6.below (by omega : wr0.heap.size ≤ wr0.heap.size + 1) (by omega))⟩
              clear hT O5 W5 s5 B5 W6 O6 hR hW hE hl hs Bo
              go_wp2_with fail
              refine ⟨⟨i + 1, by omega, by go_num, hi1, St6⟩, by simp [intOf]; omega⟩
            have t4 : (dd == 4) = false := by rw [beq_eq_false_iff_ne]; exact h4
            by_cases h5 : dd = 5
            · subst h5
              go_wp2_with fail
              generalize wr.alloc (.cells #[.int .i64 5, .int .i64 nn, .int .u64 xx, .int .i64 mm] 65) = wo at *
              refine (rd_zig wr0.heap.size 0 (strOf B1) a e wo hR).mono ?_
              rintro _ w5 ⟨yv, rfl, hyv, hT⟩
              have O5 := hT.only
              have W5 := hW.other O5 (by omega) (by omega)
              have s5 := Nat.le_trans hs O5.size
              have B5 := Bo.trans (O5.below (Nat.le_refl _) (by omega))
              go_wp2_with fail
              refine (wzig_any (wr0.heap.size + 1) 0 (wr0.heap.size + 2) yv w5 l W5 (by omega) s5 (by omega) hyv.1 hyv.2).mono ?_
              rintro _ w6 ⟨rfl, W6, O6⟩
              have St6 : Hid (OneSt w6 wr0.heap.size (strOf B1) (i + 1) ∧ Below wr0.heap.size wr0 w6) := ⟨OneSt.step hR hE hl hT (varB_le _) W6 O6 hs, B5.trans (O6.below (by omega : wr0.heap.size ≤ wr0.heap.size + 1) (by omega))⟩
              clear hT O5 W5 s5 B5 W6 O6 hR hW hE hl hs Bo
              go_wp2_with fail
              refine ⟨⟨i + 1, by omega, by go_num, hi1, St6⟩, by simp [intOf]; omega⟩
            have t5 : (dd == 5) = false := by rw [beq_eq_false_iff_ne]; exact h5
            have St6 : Hid (OneSt (wr.alloc (.cells #[.int .i64 dd, .int .i64 nn, .int .u64 xx, .int .i64 mm] 65)) wr0.heap.size (strOf B1) (i + 1) ∧ Below wr0.heap.size wr0 (wr.alloc (.cells #[.int .i64 dd, .int .i64 nn, .int .u64 xx, .int .i64 mm] 65))) := ⟨⟨a, e, l, hR, hW, hE, by omega, hs⟩, Bo⟩
            go_wp2_with fail
            refine ⟨⟨i + 1, by omega, by go_num, hi1, St6⟩, by simp [intOf]; omega⟩
          · by_cases hi1 : i < len
            · have hi2 : ¬ i < 400 := by omega
              go_wp2_with fail
              obtain ⟨a, e, l, hR, hW, hE, hl, hs⟩ := HS.out.1
              have Bw := HS.out.2
              clear HS
              obtain ⟨bs, Hbs⟩ : ∃ bs, Hid (packed l = bs) := ⟨_, rfl⟩
              refine (wdone_packed (wr0.heap.size + 1) 0 (wr0.heap.size + 2) wr l hW hs (by omega) bs Hbs.out).mono ?_
              rintro _ w3 ⟨rfl, G3, B3⟩
              have R3 := hR.below B3 (by omega)
              have I3 : IsBytes w3 (.slice (some ⟨wr.heap.size, 0, none⟩) bs.length bs.length) bs := isBytes_row G3
              have C3 : Below wr0.heap.size wr0 w3 := Bw.trans (B3.mono (by omega))
              have J3 : IsBy w3 (.slice p1 l1 c1) B1 := isBy_below (isBy_below hI HQ.out.2.2.2.1) (C3.mono (Nat.le_refl _))
              have r3 : w3.cell? ⟨w.heap.size, 1, none⟩ = some (.slice p1 l1 c1) := (C3.cell (p := ⟨w.heap.size, 1, none⟩) hgN).trans HQ.out.2.1
              have hcvb : ∀ n, (convert 29 9 (.slice (some ⟨wr.heap.size, 0, none⟩) bs.length bs.length)).run Try.prog (w3.drewN n) = .ok (.string (strOf bs)) (w3.drewN n) := fun n => convert_bytes (w3.drewN n) _ _ I3
              have hcvp : ∀ n, (convert 29 9 (.slice p1 l1 c1)).run Try.prog (w3.drewN n) = .ok (.string (strOf B1)) (w3.drewN n) := fun n => convert_by (w3.drewN n) _ _ J3
              have hend := fun n => rend_any wr0.heap.size 0 (strOf B1) a e (w3.drewN n) (R3.drewN n)
              obtain ⟨E, hEE⟩ : ∃ E, endE (strOf B1) a e = E := ⟨_, rfl⟩
              simp only [hEE] at hend
              have HEnd : Hid (∀ n, Calls Try.prog 24 #[.pointer (some ⟨wr0.heap.size, 0, none⟩)] (w3.drewN n) fun e w' => e = .returned (.int .i64 E) ∧ ∃ m, w' = (w3.drewN n).drewN m) := hend
              have HN : Hid (w3.cell? ⟨w.heap.size, 0, none⟩ = some (.slice p0 l0 c0) ∧ w3.cell? ⟨w.heap.size, 1, none⟩ = some (.slice p1 l1 c1) ∧ w3.cell? ⟨w.heap.size, 2, none⟩ = some (.slice a0 len cap) ∧ Below w.heap.size w w3 ∧ w.heap.size < w3.heap.size) :=
                ⟨(C3.cell (p := ⟨w.heap.size, 0, none⟩) hgN).trans HQ.out.1, (C3.cell (p := ⟨w.heap.size, 1, none⟩) hgN).trans HQ.out.2.1, (C3.cell (p := ⟨w.heap.size, 2, none⟩) hgN).trans HQ.out.2.2.1, HQ.out.2.2.2.1.trans (C3.mono (by omega)), Nat.lt_of_lt_of_le hgN C3.size⟩
              by_cases hE0 : E = 0
              · have hfin : bs = B1 := by
                  rw [← Hbs.out]
                  exact one_end B1 hb256 a e l R3.le hE (hEE.trans hE0)
                have hEb : (E == 0) = true := by rw [beq_iff_eq]; exact hE0
                have hstr : strOf bs = strOf B1 := by rw [hfin]
                have hcvb2 : ∀ n, (convert 29 9 (.slice (some ⟨wr.heap.size, 0, none⟩) bs.length bs.length)).run Try.prog (w3.drewN n) = .ok (.string (strOf B1)) (w3.drewN n) := fun n => (hcvb n).trans (by rw [hstr])
                clear hend hEE hE0 hfin hE hcvb hstr
                go_wp2_with fail
                go_quiet (first | (go_at_call 23; exact Calls.quiet_of_same (num_any _ _)) | (go_at_call 24; exact quietN (HEnd.out _)))
                go_wp2_with fail
                refine ⟨⟨1 + 1, by omega, rfl, ⟨HN.out.1, HN.out.2.1, HN.out.2.2.1, ⟨HN.out.2.2.2.1.os, HN.out.2.2.2.1.tape, HN.out.2.2.2.1.output, HN.out.2.2.2.1.size, HN.out.2.2.2.1.block⟩, HN.out.2.2.2.2⟩⟩, by simp [intOf]⟩
              · have hEb : (E == 0) = false := by rw [beq_eq_false_iff_ne]; exact hE0
                clear hend hEE hE0 hE
                go_wp2_with fail
                go_quiet (first | (go_at_call 23; exact Calls.quiet_of_same (num_any _ _)) | (go_at_call 24; exact quietN (HEnd.out _)))
                go_wp2_with fail
                refine ⟨⟨1 + 1, by omega, rfl, ⟨HN.out.1, HN.out.2.1, HN.out.2.2.1, ⟨HN.out.2.2.2.1.os, HN.out.2.2.2.1.tape, HN.out.2.2.2.1.output, HN.out.2.2.2.1.size, HN.out.2.2.2.1.block⟩, HN.out.2.2.2.2⟩⟩, by simp [intOf]⟩
            · go_wp2_with fail
              obtain ⟨a, e, l, hR, hW, hE, hl, hs⟩ := HS.out.1
              have Bw := HS.out.2
              clear HS
              obtain ⟨bs, Hbs⟩ : ∃ bs, Hid (packed l = bs) := ⟨_, rfl⟩
              refine (wdone_packed (wr0.heap.size + 1) 0 (wr0.heap.size + 2) wr l hW hs (by omega) bs Hbs.out).mono ?_
              rintro _ w3 ⟨rfl, G3, B3⟩
              have R3 := hR.below B3 (by omega)
              have I3 : IsBytes w3 (.slice (some ⟨wr.heap.size, 0, none⟩) bs.length bs.length) bs := isBytes_row G3
              have C3 : Below wr0.heap.size wr0 w3 := Bw.trans (B3.mono (by omega))
              have J3 : IsBy w3 (.slice p1 l1 c1) B1 := isBy_below (isBy_below hI HQ.out.2.2.2.1) (C3.mono (Nat.le_refl _))
              have r3 : w3.cell? ⟨w.heap.size, 1, none⟩ = some (.slice p1 l1 c1) := (C3.cell (p := ⟨w.heap.size, 1, none⟩) hgN).trans HQ.out.2.1
              have hcvb : ∀ n, (convert 29 9 (.slice (some ⟨wr.heap.size, 0, none⟩) bs.length bs.length)).run Try.prog (w3.drewN n) = .ok (.string (strOf bs)) (w3.drewN n) := fun n => convert_bytes (w3.drewN n) _ _ I3
              have hcvp : ∀ n, (convert 29 9 (.slice p1 l1 c1)).run Try.prog (w3.drewN n) = .ok (.string (strOf B1)) (w3.drewN n) := fun n => convert_by (w3.drewN n) _ _ J3
              have hend := fun n => rend_any wr0.heap.size 0 (strOf B1) a e (w3.drewN n) (R3.drewN n)
              obtain ⟨E, hEE⟩ : ∃ E, endE (strOf B1) a e = E := ⟨_, rfl⟩
              simp only [hEE] at hend
              have HEnd : Hid (∀ n, Calls Try.prog 24 #[.pointer (some ⟨wr0.heap.size, 0, none⟩)] (w3.drewN n) fun e w' => e = .returned (.int .i64 E) ∧ ∃ m, w' = (w3.drewN n).drewN m) := hend
              have HN : Hid (w3.cell? ⟨w.heap.size, 0, none⟩ = some (.slice p0 l0 c0) ∧ w3.cell? ⟨w.heap.size, 1, none⟩ = some (.slice p1 l1 c1) ∧ w3.cell? ⟨w.heap.size, 2, none⟩ = some (.slice a0 len cap) ∧ Below w.heap.size w w3 ∧ w.heap.size < w3.heap.size) :=
                ⟨(C3.cell (p := ⟨w.heap.size, 0, none⟩) hgN).trans HQ.out.1, (C3.cell (p := ⟨w.heap.size, 1, none⟩) hgN).trans HQ.out.2.1, (C3.cell (p := ⟨w.heap.size, 2, none⟩) hgN).trans HQ.out.2.2.1, HQ.out.2.2.2.1.trans (C3.mono (by omega)), Nat.lt_of_lt_of_le hgN C3.size⟩
              by_cases hE0 : E = 0
              · have hfin : bs = B1 := by
                  rw [← Hbs.out]
                  exact one_end B1 hb256 a e l R3.le hE (hEE.trans hE0)
                have hEb : (E == 0) = true := by rw [beq_iff_eq]; exact hE0
                have hstr : strOf bs = strOf B1 := by rw [hfin]
                have hcvb2 : ∀ n, (convert 29 9 (.slice (some ⟨wr.heap.size, 0, none⟩) bs.length bs.length)).run Try.prog (w3.drewN n) = .ok (.string (strOf B1)) (w3.drewN n) := fun n => (hcvb n).trans (by rw [hstr])
                clear hend hEE hE0 hfin hE hcvb hstr
                go_wp2_with fail
                go_quiet (first | (go_at_call 23; exact Calls.quiet_of_same (num_any _ _)) | (go_at_call 24; exact quietN (HEnd.out _)))
                go_wp2_with fail
                refine ⟨⟨1 + 1, by omega, rfl, ⟨HN.out.1, HN.out.2.1, HN.out.2.2.1, ⟨HN.out.2.2.2.1.os, HN.out.2.2.2.1.tape, HN.out.2.2.2.1.output, HN.out.2.2.2.1.size, HN.out.2.2.2.1.block⟩, HN.out.2.2.2.2⟩⟩, by simp [intOf]⟩
              · have hEb : (E == 0) = false := by rw [beq_eq_false_iff_ne]; exact hE0
                clear hend hEE hE0 hE
                go_wp2_with fail
                go_quiet (first | (go_at_call 23; exact Calls.quiet_of_same (num_any _ _)) | (go_at_call 24; exact quietN (HEnd.out _)))
                go_wp2_with fail
                refine ⟨⟨1 + 1, by omega, rfl, ⟨HN.out.1, HN.out.2.1, HN.out.2.2.1, ⟨HN.out.2.2.2.1.os, HN.out.2.2.2.1.tape, HN.out.2.2.2.1.output, HN.out.2.2.2.1.size, HN.out.2.2.2.1.block⟩, HN.out.2.2.2.2⟩⟩, by simp [intOf]⟩

    · go_wp2_with fail
      refine (works_any _).mono ?_
      rintro e w1 ⟨rfl, B1⟩
      go_wp2_with fail
      go_ret
      exact ⟨rfl, HB.trans (B1.mono (by omega))⟩
end Go.Proofs.Ytpiiagjfimdflaa

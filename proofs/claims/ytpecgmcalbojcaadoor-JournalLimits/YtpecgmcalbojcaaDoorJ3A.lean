/- JournalSum: the walk. -/
import Derived.Test.YtpecgmcalbojcaaDoorJ2N
import Derived.Test.YtpecgmcalbojcaaDoorJ3M
import Derived.Deep.CutBlock
import Derived.Deep.DeepCutAuto
import Derived.Deep.CutRange
import Derived.BigQuiet
namespace Go.Proofs.YtpecgmcalbojcaaDoor
open Go.RowKit
set_option linter.unusedVariables false
set_option linter.unusedSimpArgs false

/-- Bytes that fill a block of their own. -/
def Rz (w : World) (g : Nat) (bs : List Nat) : Prop := w.heap[g]? = some (.cells (bytesV bs).toArray 5 (0, 0))

theorem Rz.cell {w : World} {g : Nat} {bs : List Nat} (h : Rz w g bs) (i : Nat) (hi : i < bs.length) : w.cell? ⟨g, i, none⟩ = some (.int .u8 ((bs.getD i 0 : Nat) : Int)) := by
  rw [cell_of_row w g i _ _ _ h]; simp [bytesV, hi, List.getD]
theorem Rz.set {w : World} {g : Nat} {bs : List Nat} (h : Rz w g bs) (i z : Nat) : Rz (w.setCell ⟨g, i, none⟩ (.int .u8 (z : Int))) g (bs.set i z) := by
  unfold Rz at *; rw [heap_set_at h]; simp [bytesV, List.map_set]
theorem Rz.below {w w' : World} {g : Nat} {bs : List Nat} (h : Rz w g bs) (hb : Below w.heap.size w w') : Rz w' g bs := (hb.block g (heap_lt h)).trans h

/-- The first k bytes xored, the rest noughts. -/
def xr (a b : List Nat) (n k : Nat) : List Nat := (List.range n).map fun j => if j < k then a.getD j 0 ^^^ b.getD j 0 else 0
theorem xr_len (a b : List Nat) (n k : Nat) : (xr a b n k).length = n := by simp [xr]
theorem xr_get (a b : List Nat) (n k j : Nat) (h : j < n) : (xr a b n k).getD j 0 = if j < k then a.getD j 0 ^^^ b.getD j 0 else 0 := by simp [xr, List.getD, h]
theorem xr_zero (a b : List Nat) (n : Nat) : xr a b n 0 = List.replicate n 0 := by
  apply List.ext_getElem <;> simp [xr]
theorem xr_set (a b : List Nat) (n k : Nat) : (xr a b n k).set k (a.getD k 0 ^^^ b.getD k 0) = xr a b n (k + 1) := by
  apply List.ext_getElem
  · simp [xr]
  · intro j h1 h2
    simp only [xr, List.getElem_set, List.getElem_map, List.getElem_range]
    by_cases e : k = j
    · subst e; simp
    · rw [if_neg e]
      by_cases hl : j < k
      · rw [if_pos hl, if_pos (by omega)]
      · rw [if_neg hl, if_neg (by omega)]
theorem xr_lt (a b : List Nat) (n k : Nat) (ha : ∀ x ∈ a, x < 256) (hb : ∀ x ∈ b, x < 256) : ∀ x ∈ xr a b n k, x < 256 := fun x hx => by
  simp only [xr, List.mem_map, List.mem_range] at hx
  obtain ⟨j, _, rfl⟩ := hx
  split
  · exact Nat.xor_lt_two_pow (n := 8) (getD_byte ha j) (getD_byte hb j)
  · omega

set_option maxRecDepth 100000 in
theorem cy_cut {w : World} {p : Option Addr} {n c : Nat} {bs : List Nat} (h : Cy w p n c bs) (hh : Nat) (hl : hh ≤ n) : ∃ p', (∀ w', (Instr.slice 40 (.slice p n c) none (some (.int .i64 (hh : Int))) none).run Tryd.prog w' = .ok (.slice p' hh c) w') ∧ Cy w p' hh c (bs.take hh) := by
  obtain ⟨p', e, hc, ho⟩ := cy_slice h 0 hh (Nat.zero_le _) hl
  refine ⟨p', fun w' => ?_, by simpa using hc⟩
  have e' : Value.slice p' hh c = _ := e
  rw [e', run_slice_h (P := Tryd.prog) (w := w') (t := 40) (a := p) (len := n) (cap := c) (ht := Tryd.underlying40) .i64 (hh : Int) (by omega) (by have := h.2.2.1; omega)]
  simp [Result.andThen, sliced, Tryd.sizeOf5, Program.elem, Tryd.underlying40]

theorem ob_at {B : Nat} {w0 wr : World} {bs : List Nat} {v : Value} (h : OB B w0 bs v wr) (hn : 0 < bs.length) : ∃ g cap, v = .slice (some ⟨g, 0, none⟩) bs.length cap ∧ B ≤ g ∧ (∀ i, i < bs.length → wr.cell? ⟨g, i, none⟩ = some (.int .u8 ((bs.getD i 0 : Nat) : Int))) ∧ ∀ i, wr.frozen? ⟨g, i, none⟩ = false := by
  rcases h.own.2 with ⟨h1, h2⟩ | ⟨g, cap, cur, h1, hb, hg, hc, hm, hs, ht⟩
  · omega
  · refine ⟨g, cap, h1, hb, fun i hi => ?_, fun i => frozen_of_row _ _ _ _ _ hg⟩
    have e : (bytesV bs)[i]? = some (.int .u8 ((bs.getD i 0 : Nat) : Int)) := by simp [bytesV, List.getD, hi]
    rw [cell_of_row wr g i cur _ (0, 0) hg, ← e, ← ht, List.getElem?_take, if_pos (by omega)]
    simp

theorem isBy_set {w : World} {g c i z : Nat} {bs : List Nat} (h : ∀ i, i < bs.length → w.cell? ⟨g, i, none⟩ = some (.int .u8 ((bs.getD i 0 : Nat) : Int))) (hi : i < bs.length) : IsBy (w.setCell ⟨g, i, none⟩ (.int .u8 (z : Int))) (.slice (some ⟨g, 0, none⟩) bs.length c) (bs.set i z) := by
  refine .inl (.inr ⟨g, 0, c, by simp, fun j hj => ?_⟩)
  have hj' : j < bs.length := by simpa using hj
  rw [Nat.zero_add]
  by_cases e : j = i
  · subst e
    rw [cell_setCell_eq _ _ _ _ _ (h j hj')]; simp [List.getD, hj']
  · rw [cell_setCell_ne _ _ _ _ _ e, h j hj']
    simp [List.getD, List.getElem?_set_ne (Ne.symm e)]

theorem below_set {B : Nat} {w w1 : World} {g i : Nat} {v : Value} (h : Below B w w1) (hg : B ≤ g) : Below B w (w1.setCell ⟨g, i, none⟩ v) :=
  ⟨h.os, h.tape, h.output, by have := h.size; simpa [World.setCell] using this, fun j hj => (Below.heap_setCell _ _ _ _ (by show j ≠ g; omega)).trans (h.block j hj)⟩

set_option maxRecDepth 100000 in
set_option maxHeartbeats 8000000 in
theorem journalSum_any (pa : Option Addr) (na ca : Nat) (pb : Option Addr) (nb cb : Nat) (al bs : List Nat) (w : World) (ha : Cy w pa na ca al) (hb : Cy w pb nb cb bs) (hna : na ≤ 140737488355328) (hnb : nb ≤ 140737488355328) (ha2 : ∀ x ∈ al, x < 256) (hb2 : ∀ x ∈ bs, x < 256) (hT : TabC w) :
    Calls Tryd.prog 6 #[.agg #[.slice pa na ca, .slice pb nb cb]] w fun e w' => e = .returned (.bool true) ∧ Below w.heap.size w w' := by
  have HX : Hid ((w.alloc (.cells #[.slice pa na ca, .slice pb nb cb] 63)).heap[w.heap.size]? = some (.cells #[.slice pa na ca, .slice pb nb cb] 63 (0, 0))) := heap_alloc_new _ _
  have HB0 : Hid (Below w.heap.size w (w.alloc (.cells #[.slice pa na ca, .slice pb nb cb] 63))) := (Below.refl _ _).alloc (Nat.le_refl _) _
  have HA := hide (And.intro ha ha2)
  have HB := hide (And.intro hb hb2)
  have HT := hide hT
  clear ha hb ha2 hb2 hT
  go_enter Tryd.func6, Tryd.ntmps6
  go_upto_region 1 with fail
  generalize w.alloc (.cells #[.slice pa na ca, .slice pb nb cb] 63) = w0 at *
  have c0 : w0.cell? ⟨w.heap.size, 0, none⟩ = some (.slice pa na ca) := by rw [cell_of_row _ _ _ _ _ _ HX.out]; rfl
  have c1 : w0.cell? ⟨w.heap.size, 1, none⟩ = some (.slice pb nb cb) := by rw [cell_of_row _ _ _ _ _ _ HX.out]; rfl
  go_upto_if 16 with fail
  clear c0 c1
  go_cut [3] from 10 (fun t3 wc => ∃ (p1 : Option Addr) (n1 c1 : Nat), t3 = .slice p1 n1 c1 ∧ n1 ≤ 262144 ∧ Hid (∃ a, Cy w p1 n1 c1 a ∧ ∀ x ∈ a, x < 256) ∧ w0 = wc)
  case first =>
    by_cases hn : 262144 < na
    · have hn' : (262144 : Int) < (na : Int) := by omega
      obtain ⟨p', hs, hc⟩ := cy_cut HA.out.1 262144 (by omega)
      have HR : Hid (∃ a, Cy w p' 262144 ca a ∧ ∀ x ∈ a, x < 256) := ⟨_, hc, fun x hx => HA.out.2 x (List.mem_of_mem_take hx)⟩
      clear hc
      have hs' : ∀ w', (Instr.slice 40 (.slice pa na ca) none (some (.int .i64 262144)) none).run Tryd.prog w' = .ok (.slice p' 262144 ca) w' := hs
      clear hs
      go_wp2_with (simp only [hs'])
      go_meet
      case rel => exact ⟨p', 262144, ca, rfl, Nat.le_refl _, HR, rfl⟩
    · have hn' : ¬ (262144 : Int) < (na : Int) := by omega
      have HR : Hid (∃ a, Cy w pa na ca a ∧ ∀ x ∈ a, x < 256) := ⟨_, HA.out⟩
      go_wp2_with fail
      go_meet
      case rel => exact ⟨pa, na, ca, rfl, by omega, HR, rfl⟩
  case rest =>
    obtain ⟨p1, n1, c1, rfl, hn1, HR1, rfl⟩ := hcut
    clear HA hna
    go_upto_if 23 with fail
    go_cut [4] from 10 (fun t4 wc => ∃ (p2 : Option Addr) (n2 c2 : Nat), t4 = .slice p2 n2 c2 ∧ n2 ≤ n1 ∧ Hid (∃ a, Cy w p2 n2 c2 a ∧ ∀ x ∈ a, x < 256) ∧ w0 = wc)
    case first =>
      by_cases hn : n1 < nb
      · have hn' : (n1 : Int) < (nb : Int) := by omega
        obtain ⟨p', hs, hc⟩ := cy_cut HB.out.1 n1 (by omega)
        have HR : Hid (∃ a, Cy w p' n1 cb a ∧ ∀ x ∈ a, x < 256) := ⟨_, hc, fun x hx => HB.out.2 x (List.mem_of_mem_take hx)⟩
        clear hc
        go_wp2_with (simp only [hs])
        go_meet
        case rel => exact ⟨p', n1, cb, rfl, Nat.le_refl _, HR, rfl⟩
      · have hn' : ¬ (n1 : Int) < (nb : Int) := by omega
        have HR : Hid (∃ a, Cy w pb nb cb a ∧ ∀ x ∈ a, x < 256) := ⟨_, HB.out⟩
        go_wp2_with fail
        go_meet
        case rel => exact ⟨pb, nb, cb, rfl, by omega, HR, rfl⟩
    case rest =>
      obtain ⟨p2, n, c2, rfl, hn2, HR2, rfl⟩ := hcut
      clear HB hnb
      obtain ⟨a1, hA1, hA2⟩ := HR1.out
      obtain ⟨b, hB1, hB2⟩ := HR2.out
      obtain ⟨p3, hs, hA3⟩ := cy_cut hA1 n hn2
      obtain ⟨a, hae⟩ : ∃ a, a = a1.take n := ⟨_, rfl⟩
      rw [← hae] at hA3
      have hA4 : ∀ x ∈ a, x < 256 := fun x hx => hA2 x (List.mem_of_mem_take (hae ▸ hx))
      have hnM : n ≤ 262144 := by omega
      have HA := hide (And.intro hA3 hA4)
      have HB := hide (And.intro hB1 hB2)
      have hmk := make_bytes n (by omega)
      clear HR1 HR2 hA1 hA2 hA3 hA4 hB1 hB2 hae
      go_upto_block 0 with (first | simp only [hs] | simp only [hmk])
      obtain ⟨W1, hW1⟩ : ∃ W1, w0.alloc (.cells (Array.replicate n (.int .u8 0)) 5) = W1 := ⟨_, rfl⟩
      obtain ⟨g, hg⟩ : ∃ g, w0.heap.size = g := ⟨_, rfl⟩
      have HW1 : Hid (Rz W1 g (xr a b n 0) ∧ Below w.heap.size w W1 ∧ w.heap.size ≤ g) := by
        refine ⟨?_, by rw [← hW1]; exact HB0.out.alloc HB0.out.size _, by rw [← hg]; exact HB0.out.size⟩
        have := heap_alloc_new w0 (.cells (Array.replicate n (.int .u8 0)) 5)
        rw [hW1, hg] at this
        unfold Rz
        rw [this, xr_zero]
        simp [bytesV]
      rw [hW1, hg]
      clear hW1 hg HX HB0 hs hmk
      go_cut [5] from 6 (fun t5 wc => t5 = .slice (some ⟨g, 0, none⟩) n n ∧ Hid (Rz wc g (xr a b n n) ∧ Below w.heap.size w wc))
      case first =>
        as_aux_lemma =>
          go_wp2_with fail
          go_loopw [6] (fun t6 wr => ∃ k : Nat, t6 = .int .i64 (k : Int) ∧ Hid (k ≤ n ∧ Rz wr g (xr a b n k) ∧ Below w.heap.size w wr)) (fun t6 _ => n - (intOf t6).toNat)
          case atStart => exact ⟨0, rfl, Nat.zero_le _, HW1.out.1, HW1.out.2.1⟩
          case round =>
            obtain ⟨k, rfl, hI⟩ := hrel
            by_cases hlt : k < n
            · have hlt' : (k : Int) < (n : Int) := by omega
              have hal : a.length = n := HA.out.1.2.1.symm
              have hbl : b.length = n := HB.out.1.2.1.symm
              obtain ⟨_, _, ea, hca⟩ := by_slice (isBy_below HA.out.1.1 hI.out.2.2)
              obtain ⟨_, _, eb, hcb⟩ := by_slice (isBy_below HB.out.1.1 hI.out.2.2)
              simp only [Value.slice.injEq] at ea eb
              obtain ⟨ga, oa, e1, k1⟩ := hca k (by omega)
              obtain ⟨gb, ob, e2, k2⟩ := hcb k (by omega)
              have e3 := ea.1.trans e1
              have e4 := eb.1.trans e2
              subst e3
              subst e4
              have k3 := hI.out.2.1.cell k (by rw [xr_len]; exact hlt)
              have k4 : wr.frozen? ⟨g, k, none⟩ = false := frozen_of_row _ _ _ _ _ hI.out.2.1
              obtain ⟨x, hx⟩ : ∃ x, a.getD k 0 = x := ⟨_, rfl⟩
              obtain ⟨y, hy⟩ : ∃ y, b.getD k 0 = y := ⟨_, rfl⟩
              obtain ⟨z, hz⟩ : ∃ z, x ^^^ y = z := ⟨_, rfl⟩
              have hx2 : x < 256 := by rw [← hx]; exact getD_byte HA.out.2 k
              have hy2 : y < 256 := by rw [← hy]; exact getD_byte HB.out.2 k
              have q1 : bits BinOp.xor IntKind.u8 (x : Int) (y : Int) = (z : Int) := by rw [← hz]; exact u8_xor_nat x y hx2 hy2
              have HN : Hid (∀ N, Rz ((wr.drewN N).setCell ⟨g, k, none⟩ (.int .u8 (z : Int))) g (xr a b n (k + 1)) ∧ Below w.heap.size w ((wr.drewN N).setCell ⟨g, k, none⟩ (.int .u8 (z : Int)))) := fun N => by
                have h1 : Rz (wr.drewN N) g (xr a b n k) := hI.out.2.1
                have h2 := h1.set k z
                rw [← hz, ← hx, ← hy, xr_set] at h2
                refine ⟨by rw [← hz, ← hx, ← hy]; exact h2, ?_⟩
                have h3 : Below w.heap.size w (wr.drewN N) := below_drewN hI.out.2.2 N
                exact ⟨h3.os, h3.tape, h3.output, by have := h3.size; simpa [World.setCell] using this, fun j hj => (Below.heap_setCell _ _ _ _ (by show j ≠ g; have := HW1.out.2.2; omega)).trans (h3.block j hj)⟩
              rw [hx] at k1
              rw [hy] at k2
              have HLT : Hid (k + 1 ≤ n) := hlt
              clear ea eb e1 e2 hca hcb hx hy hz hI
              go_wp2_with fail
              go_region
              go_wp2_with fail
              go_roundw
              case rel => exact ⟨k + 1, by simp, HLT.out, HN.out 1⟩
              case measure => simp [intOf]; omega
            · have hlt' : ¬ (k : Int) < (n : Int) := by omega
              have HF : Hid (Rz wr g (xr a b n n) ∧ Below w.heap.size w wr) := by
                have e : k = n := by have := hI.out.1; omega
                have := hI.out.2
                rw [e] at this
                exact this
              go_wp2_with fail
              go_meet
              case rel => exact ⟨rfl, HF.out⟩
      case rest =>
        obtain ⟨rfl, HR⟩ := hcut
        clear HW1
        have hmk := make_bytes n (by omega)
        have HO : Hid (Rz (wc.alloc (.cells (Array.replicate n (.int .u8 0)) 5)) wc.heap.size (List.replicate n 0) ∧ Rz (wc.alloc (.cells (Array.replicate n (.int .u8 0)) 5)) g (xr a b n n) ∧ Below w.heap.size w (wc.alloc (.cells (Array.replicate n (.int .u8 0)) 5))) := by
          refine ⟨?_, HR.out.1.below ((Below.refl _ _).alloc (Nat.le_refl _) _), HR.out.2.alloc HR.out.2.size _⟩
          have := heap_alloc_new wc (.cells (Array.replicate n (.int .u8 0)) 5)
          unfold Rz
          rw [this]
          simp [bytesV]
        clear HR
        go_wp2_with (simp only [hmk])
        obtain ⟨W2, hW2⟩ : ∃ W2, wc.alloc (.cells (Array.replicate n (.int .u8 0)) 5) = W2 := ⟨_, rfl⟩
        obtain ⟨g2, hg2⟩ : ∃ g2, wc.heap.size = g2 := ⟨_, rfl⟩
        rw [hW2, hg2] at HO
        rw [hW2, hg2]
        have hal : a.length = n := HA.out.1.2.1.symm
        have hbl : b.length = n := HB.out.1.2.1.symm
        have HSA : Hid (∀ w1, Below w.heap.size w w1 → Calls Tryd.prog 30 #[.slice p3 n c1] w1 fun e w' => e = .returned (.int .u32 (crcO a : Nat)) ∧ w' = w1) := fun w1 hB => jsum_any _ a w1 (isBy_below HA.out.1.1 hB) HA.out.2 (by omega) (HT.out.below hB)
        have HSB : Hid (∀ w1, Below w.heap.size w w1 → Calls Tryd.prog 30 #[.slice p2 n c2] w1 fun e w' => e = .returned (.int .u32 (crcO b : Nat)) ∧ w' = w1) := fun w1 hB => jsum_any _ b w1 (isBy_below HB.out.1.1 hB) HB.out.2 (by omega) (HT.out.below hB)
        have HSX : Hid (Calls Tryd.prog 30 #[.slice (some ⟨g, 0, none⟩) n n] W2 fun e w' => e = .returned (.int .u32 (crcO (xr a b n n) : Nat)) ∧ w' = W2) := by
          have h1 := isBy_cells (cap := n) HO.out.2.1
          rw [xr_len] at h1
          exact jsum_any _ _ W2 h1 (xr_lt a b n n HA.out.2 HB.out.2) (by rw [xr_len]; omega) (HT.out.below HO.out.2.2)
        have HSO : Hid (Calls Tryd.prog 30 #[.slice (some ⟨g2, 0, none⟩) n n] W2 fun e w' => e = .returned (.int .u32 (crcO (List.replicate n 0) : Nat)) ∧ w' = W2) := by
          have h1 := isBy_cells (cap := n) HO.out.1
          rw [List.length_replicate] at h1
          exact jsum_any _ _ W2 h1 (fun x hx => by have := List.eq_of_mem_replicate hx; omega) (by simp; omega) (HT.out.below HO.out.2.2)
        have HXE : Hid (crcO a ^^^ crcO b = crcO (xr a b n n) ^^^ crcO (List.replicate n 0)) := crcO_xor a b _ _ HA.out.2 HB.out.2 (xr_lt a b n n HA.out.2 HB.out.2) (fun x hx => by have := List.eq_of_mem_replicate hx; omega) (by omega) (by rw [xr_len, hal]) (by simp [hal]) (fun k hk => by rw [xr_get _ _ _ _ _ (by omega), if_pos (by omega)]) (fun k hk => by rw [List.getD, List.getElem?_replicate]; split <;> rfl)
        have HLT : Hid (∀ l : List Nat, crcO l < 4294967296) := fun l => by unfold crcO; omega
        obtain ⟨sa, hsa⟩ : ∃ s, crcO a = s := ⟨_, rfl⟩
        obtain ⟨sb, hsb⟩ : ∃ s, crcO b = s := ⟨_, rfl⟩
        obtain ⟨sx, hsx⟩ : ∃ s, crcO (xr a b n n) = s := ⟨_, rfl⟩
        obtain ⟨so, hso⟩ : ∃ s, crcO (List.replicate n 0) = s := ⟨_, rfl⟩
        have la : sa < 4294967296 := by rw [← hsa]; exact HLT.out _
        have lb : sb < 4294967296 := by rw [← hsb]; exact HLT.out _
        have lx : sx < 4294967296 := by rw [← hsx]; exact HLT.out _
        have lo : so < 4294967296 := by rw [← hso]; exact HLT.out _
        rw [hsa] at HSA HXE
        rw [hsb] at HSB HXE
        rw [hsx] at HSX HXE
        rw [hso] at HSO HXE
        obtain ⟨y, hy⟩ : ∃ y, sa ^^^ sb = y := ⟨_, rfl⟩
        have q1 : bits BinOp.xor IntKind.u32 (sa : Int) (sb : Int) = (y : Int) := by rw [← hy]; exact u32_xor_nat sa sb la lb
        have q2 : bits BinOp.xor IntKind.u32 (sx : Int) (so : Int) = (y : Int) := by rw [← hy, HXE.out]; exact u32_xor_nat sx so lx lo
        have HBW : Hid (Below w.heap.size w W2) := HO.out.2.2
        have HSA0 := hide hsa
        clear hW2 hg2 hmk HO hsa hsb hsx hso hy HXE HB lb lx lo
        refine (HSA.out _ HBW.out).mono ?_
        rintro e w3 ⟨rfl, hw3⟩
        have hw3 := hw3.symm
        subst hw3
        go_wp2_with fail
        refine (HSB.out _ HBW.out).mono ?_
        rintro e w3 ⟨rfl, hw3⟩
        have hw3 := hw3.symm
        subst hw3
        go_wp2_with fail
        refine HSX.out.mono ?_
        rintro e w3 ⟨rfl, hw3⟩
        have hw3 := hw3.symm
        subst hw3
        go_wp2_with fail
        refine HSO.out.mono ?_
        rintro e w3 ⟨rfl, hw3⟩
        have hw3 := hw3.symm
        subst hw3
        clear HSB HSX HSO
        go_wp2_with fail
        refine (works_any W2 (HT.out.below HBW.out)).mono ?_
        rintro e w4 ⟨rfl, hB4⟩
        have HB4 : Hid (Below w.heap.size w w4) := HBW.out.trans (hB4.mono HBW.out.size)
        clear hB4 HBW q1 q2
        go_wp2_with fail
        go_loopw [8] (fun t8 wr => ∃ k : Nat, t8 = .int .i64 (k : Int) ∧ Hid (k ≤ 40 ∧ Below w.heap.size w wr)) (fun t8 _ => 40 - (intOf t8).toNat)
        case atStart => exact ⟨0, rfl, Nat.zero_le _, HB4.out⟩
        case round =>
          obtain ⟨k, rfl, hI⟩ := hrel
          by_cases hlt : k < n
          · have hlt' : (k : Int) < (n : Int) := by omega
            by_cases hl4 : k < 40
            · have hl4' : (k : Int) < 40 := by omega
              go_wp2_with fail
              refine (copy_any _ a wr (isBy_below HA.out.1.1 hI.out.2) (by omega)).mono ?_
              rintro e w5 ⟨v5, rfl, hO5⟩
              obtain ⟨gc, cc, hv5, hgc, k5, f5⟩ := ob_at hO5 (by omega)
              rw [hal] at hv5
              subst hv5
              have c5 := k5 k (by omega)
              have f5' := f5 k
              have HB5 : Hid (Below w.heap.size w w5) := hI.out.2.trans (hO5.bel.mono hI.out.2.size)
              obtain ⟨x, hx⟩ : ∃ x, a.getD k 0 = x := ⟨_, rfl⟩
              have hx2 : x < 256 := by rw [← hx]; exact getD_byte HA.out.2 k
              rw [hx] at c5
              have HK5 : Hid (∀ z : Nat, z < 256 → z ≠ x → ∃ sc : Nat, sc ≠ sa ∧ sc < 4294967296 ∧ Calls Tryd.prog 30 #[.slice (some ⟨gc, 0, none⟩) n cc] (w5.setCell ⟨gc, k, none⟩ (.int .u8 (z : Int))) fun e w' => e = .returned (.int .u32 (sc : Nat)) ∧ w' = w5.setCell ⟨gc, k, none⟩ (.int .u8 (z : Int))) := fun z hz hzx => by
                have hne := crcO_one a k z HA.out.2 (by omega) hz (by rw [hx]; exact hzx)
                have h1 := isBy_set (c := cc) (z := z) k5 (show k < a.length by omega)
                rw [hal] at h1
                refine ⟨crcO (a.set k z), by rw [← HSA0.out]; exact hne, HLT.out _, jsum_any _ _ _ h1 (fun u hu => ?_) (by simp; omega) (HT.out.below (below_set HB5.out (by have := hI.out.2.size; omega)))⟩
                rcases List.mem_or_eq_of_mem_set hu with h | h
                · exact HA.out.2 u h
                · omega
              have HG : Hid (w.heap.size ≤ gc) := by have := hI.out.2.size; show _ ≤ _; omega
              have HKN : Hid (k + 1 ≤ 40) := hl4
              clear hx hO5 k5 f5 hgc hI
              obtain ⟨m, hm⟩ : ∃ m : Nat, m = 1 + k * 7 % 255 := ⟨_, rfl⟩
              have hm2 : m < 256 ∧ m ≠ 0 := by omega
              have hmi : 1 + (k : Int) * 7 % 255 = (m : Int) := by omega
              obtain ⟨z, hz⟩ : ∃ z, x ^^^ m = z := ⟨_, rfl⟩
              have q1 : bits BinOp.xor IntKind.u8 (x : Int) (m : Int) = (z : Int) := by rw [← hz]; exact u8_xor_nat x m hx2 hm2.1
              obtain ⟨sc, hsc, hsl, hS⟩ := HK5.out z (by rw [← hz]; exact Nat.xor_lt_two_pow (n := 8) hx2 hm2.1) (fun e => hm2.2 (by
                have h1 : x ^^^ (x ^^^ m) = x ^^^ x := by rw [hz, e]
                rwa [← Nat.xor_assoc, Nat.xor_self, Nat.zero_xor] at h1))
              have HS := hide hS
              have hsc' : ¬ (sc : Int) = (sa : Int) := by omega
              have HB6 : Hid (Below w.heap.size w (w5.setCell ⟨gc, k, none⟩ (.int .u8 (z : Int)))) := below_set HB5.out HG.out
              have HMI := hide hmi
              have HQ1 := hide q1
              clear hm hm2 hz hS HK5 hmi q1
              go_wp2_with fail
              rw [HMI.out, HQ1.out]
              refine HS.out.mono ?_
              rintro e w6 ⟨rfl, hw6⟩
              rw [← hw6] at HB6
              clear hw6 HS
              go_wp2_with fail
              refine (HSA.out _ HB6.out).mono ?_
              rintro e w7 ⟨rfl, hw7⟩
              have hw7 := hw7.symm
              subst hw7
              go_wp2_with fail
              go_roundw
              case rel => exact ⟨k + 1, by simp, HKN.out, HB6.out⟩
              case measure => simp [intOf]; omega
            · have hl4' : ¬ (k : Int) < 40 := by omega
              have HF : Hid (Below w.heap.size w wr) := hI.out.2
              go_wp2_with fail
              go_ret
              exact ⟨rfl, HF.out⟩
          · have hlt' : ¬ (k : Int) < (n : Int) := by omega
            have HF : Hid (Below w.heap.size w wr) := hI.out.2
            go_wp2_with fail
            go_ret
            exact ⟨rfl, HF.out⟩

end Go.Proofs.YtpecgmcalbojcaaDoor

/- The document's Bytes of a number. -/
import Derived.Test.YtmfimhpbdbbpoaaDoorCK
import Derived.Test.YtmfimhpbdbbpoaaDoorAO
namespace Go.Proofs.YtmfimhpbdbbpoaaDoor
open Go.RowKit
open M
set_option linter.unusedVariables false
set_option linter.unusedSimpArgs false

/-- The i highest of the L bytes of N. -/
def revB (L i N : Nat) : List Nat := (List.range i).map fun p => db N (L - 1 - p)
@[simp] theorem revB_length (L i N : Nat) : (revB L i N).length = i := by simp [revB]
theorem revB_succ (L i N : Nat) : revB L (i + 1) N = revB L i N ++ [db N (L - 1 - i)] := by simp [revB, List.range_succ]
theorem revB_get (L i N p : Nat) (h : p < i) : (revB L i N)[p]? = some (db N (L - 1 - p)) := by simp [revB, h]

/-- Behind i bytes that were appended, the highest first. -/
structure RevBy (w0 : World) (L N i : Nat) (v : Value) (w : World) : Prop where
  own : w.ownsRow w0.heap.size 5 1 v i (bytesV (revB L i N))
  below : Below w0.heap.size w0 w

theorem RevBy.len {w0 : World} {L N i : Nat} {v : Value} {w : World} (h : RevBy w0 L N i v w) : slen v = i ∧ ∃ ad cap, v = .slice ad i cap := by
  rcases h.own.2 with ⟨h1, h2⟩ | ⟨g, cap, cur, h1, _⟩
  · rw [h1, h2]; exact ⟨rfl, _, _, rfl⟩
  · rw [h1]; exact ⟨rfl, _, _, rfl⟩

theorem RevBy.next {w0 : World} {L N i : Nat} {v : Value} {w w' : World} {g cap : Nat} (h : RevBy w0 L N i v w) (o : Obj)
    (ho : w'.ownsRow w0.heap.size 5 1 (.slice (some ⟨g, 0, none⟩) (i + 1) cap) (i + 1) (bytesV (revB L i N) ++ [.int .u8 (db N (L - 1 - i) : Nat)]))
    (hg : (w.alloc o).grownBy w' v.ownBlock) : RevBy w0 L N (i + 1) (.slice (some ⟨g, 0, none⟩) (i + 1) cap) w' := by
  refine ⟨?_, (h.below.alloc h.below.size _).trans (grown_below hg (fun g hg => (h.own.lt g hg).1) (by have := h.below.size; simp; omega))⟩
  rw [revB_succ, bytesV_append]; exact ho

set_option maxRecDepth 100000 in
set_option maxHeartbeats 2000000 in
theorem rBytes_ok {S : Nat → Prop} (v : Value) (k N : Nat) (w : World) (h : RowX S w v k N) (hn : Nrm k N) (hk : k ≤ 8192) :
    Calls Tryd.prog 23 #[v] w fun e w' => ∃ r, e = .returned r ∧ RevBy w ((bitLen N + 7) / 8) N ((bitLen N + 7) / 8) r w' := by
  obtain ⟨i5, hi5⟩ := info8
  have Hi := hide hi5
  clear hi5
  have HC := hide (rcheck_any v k N w h)
  rw [chk_nrm hn hk] at HC
  have HB := hide (rbits_any v k N w h hn (by omega))
  have hbl : bitLen N ≤ 32 * k := bitLen_row hn
  obtain ⟨_, _, ad, cap, rfl, hc, hcell⟩ := Row.old h.row
  have HR := hide hcell
  clear hcell h hn
  obtain ⟨L, hL, hL'⟩ : ∃ L : Nat, (bitLen N + 7) / 8 = L ∧ (((bitLen N : Nat) : Int) + 7).tdiv 8 = (L : Int) := ⟨(bitLen N + 7) / 8, rfl, rfl⟩
  have hL2 : (((bitLen N : Nat) : Int) + 7) / 8 = (L : Int) := by omega
  have hLk : L ≤ 4 * k := by omega
  rw [hL]
  clear hL
  generalize bitLen N = b at *
  have hbb : b ≤ 262144 := by omega
  have hLb : L ≤ 32768 := by omega
  go_enter Tryd.func23, Tryd.ntmps23
  go_wp2_with (first
    | (go_at_call 21; refine HC.out.mono ?_; rintro e w1 ⟨rfl, hw⟩; have hw1 := hw.symm; subst hw1; clear HC)
    | (go_at_call 58; refine HB.out.mono ?_; rintro e w2 ⟨rfl, hw⟩; have hw1 := hw.symm; subst hw1; clear HB))
  go_loopw [3, 4] (fun t3 t4 wr => ∃ i : Nat, i ≤ L ∧ t4 = .int .i64 ((L : Int) - 1 - (i : Int)) ∧ Hid (RevBy w L N i t3 wr)) (fun t3 _ _ => L - slen t3)
  case atStart => exact ⟨0, by omega, by go_num, ⟨World.ownsRow_nil _ _ _ _, Below.refl _ _⟩⟩
  case round =>
    obtain ⟨i, hi, rfl, HM⟩ := hrel
    by_cases hlt : i < L
    · obtain ⟨j, hj1, hj2⟩ : ∃ j : Nat, L - 1 - i = j ∧ (L : Int) - 1 - (i : Int) = (j : Int) := ⟨L - 1 - i, rfl, by omega⟩
      rw [hj2]
      obtain ⟨q, hq, hq', hq2⟩ : ∃ q : Nat, q = j / 4 ∧ (j : Int).tdiv 4 = (q : Int) ∧ (j : Int) / 4 = (q : Int) := ⟨j / 4, rfl, rfl, by omega⟩
      obtain ⟨r, hr, hr', hr2⟩ : ∃ r : Nat, r = j % 4 ∧ (j : Int).tmod 4 = (r : Int) ∧ (j : Int) % 4 = (r : Int) := ⟨j % 4, rfl, rfl, by omega⟩
      have hqk : q < k := by omega
      have hqk' : (q : Int) < (k : Int) := by omega
      have hr4 : r < 4 := by omega
      have hiq : j = 4 * q + r := by omega
      obtain ⟨t, ht, ht'⟩ : ∃ t : Nat, t = 8 * r ∧ 8 * (r : Int) = (t : Int) := ⟨8 * r, rfl, by omega⟩
      have ht32 : t < 32 := by omega
      obtain ⟨g, o, rfl, hg, hcl⟩ := HR.out (by omega)
      have hx : wr.cell? ⟨g, o + q, none⟩ = some (.int .u32 (dg N q : Nat)) := by rw [HM.out.below.cell (p := ⟨g, o + q, none⟩) hg]; exact hcl q hqk
      have Hs : Hid (dg N q / 2 ^ t % 256 = db N j) := by show _ = _; rw [ht, hiq]; exact db_dg N q r hr4
      have hxl := dg_lt N q
      have HJ : Hid (L - 1 - i = j ∧ slen u3 = i ∧ (L : Int) - 1 - (i : Int) = (j : Int)) := ⟨hj1, HM.out.len.1, hj2⟩
      have hjL : j < L := by omega
      clear hcl hq hr ht hiq hj1 hj2
      generalize dg N q = x at *
      have h2p := Nat.two_pow_pos t
      have h2l : 2 ^ t < 4294967296 := Nat.lt_of_lt_of_le ((Nat.pow_lt_pow_iff_right (by omega : 1 < 2)).2 ht32) (by decide)
      obtain ⟨P, hP, hP1⟩ : ∃ P : Nat, 2 ^ t = P ∧ (2 : Int) ^ t = (P : Int) := ⟨2 ^ t, rfl, by simp⟩
      rw [hP] at h2p h2l Hs
      have hP2 : (P : Int) % 4294967296 = (P : Int) := by omega
      have hP3 : ¬ (P : Int) = 0 := by omega
      obtain ⟨y, hy, hy1, hy2⟩ : ∃ y : Nat, x / P = y ∧ (x : Int) / (P : Int) = (y : Int) ∧ (x : Int).tdiv (P : Int) = (y : Int) := ⟨x / P, rfl, by simp, by rw [Int.tdiv_eq_ediv_of_nonneg (by omega)]; simp⟩
      have hyl : y < 4294967296 := by rw [← hy]; exact Nat.lt_of_le_of_lt (Nat.div_le_self _ _) hxl
      rw [hy] at Hs
      obtain ⟨c, hc1, hc2, hc3⟩ : ∃ c : Nat, y % 256 = c ∧ (y : Int).tmod 256 = (c : Int) ∧ (y : Int) % 256 = (c : Int) := ⟨y % 256, rfl, rfl, by omega⟩
      have hcb : c < 256 := by omega
      have hcm : (c : Int) % 256 = (c : Int) := by omega
      have HX : Hid (db N j = c) := by show _ = _; rw [← Hs.out, hc1]
      clear hy hP hc1 Hs
      obtain ⟨_, adu, capu, hu3⟩ := HM.out.len
      have HU := hide hu3
      go_wp2_with (at_builtin; refine wpList_append_lies _ rfl _ _ _ rfl w.heap.size 5 i5 (.int .u8 0) 1 1 Tryd.underlying46 Hi.out.1 Hi.out.2.1 Hi.out.2.2.1 Hi.out.2.2.2 rfl (by decide) _ i (bytesV (revB L i N)) rfl (HM.out.own.alloc _) ⟨wr.heap.size, 0, none⟩ 1 1 [.int .u8 (c : Nat)] rfl rfl ?d2 ?d3 (by decide) ?d4 ?d5 ?d7 _ rfl ?d6)
      case d2 => intro j u hj; exact cell_new1 wr _ 5 j u hj
      case d3 => intro u hu; simp at hu; subst hu; rfl
      case d4 => unfold maxLen; omega
      case d5 => omega
      case d7 => have := HM.out.below.size; simp; omega
      case d6 =>
        intro g4 cap4 w4 ho4 hg4 hat4 hlt4
        have H4 : Hid (RevBy w L N (i + 1) (.slice (some ⟨g4, 0, none⟩) (i + 1) cap4) w4) := by
          refine HM.out.next _ ?_ (by rw [HU.out]; exact hg4)
          rw [HJ.out.1, HX.out]
          exact ho4
        clear ho4 hg4 hat4 hlt4
        go_wp2_with fail
        go_roundw
        case rel => exact ⟨i + 1, by omega, by rw [show (L : Int) - 1 - ((i + 1 : Nat) : Int) = (j : Int) - 1 from by have := HJ.out.2.2; omega], H4.out⟩
        case measure => have h1 := HJ.out.2.1; have h2 := HJ.out.1; show L - slen (.slice _ _ _) < L - slen u3; rw [h1]; show L - (i + 1) < L - i; omega
    · obtain rfl : i = L := by omega
      have hneg : ¬ (0 : Int) ≤ (i : Int) - 1 - (i : Int) := by omega
      go_wp2_with fail
      go_ret
      exact ⟨_, rfl, HM.out⟩

end Go.Proofs.YtmfimhpbdbbpoaaDoor

/- A new cell. -/
import Derived.Test.YtgjjkopmoobilaaGreatDoorC5C
import Derived.Test.YtgjjkopmoobilaaGreatDoorC1A32
import Derived.Deep.AppendLies
import Derived.Test.YtgjjkopmoobilaaGreatDoorP1T
import Derived.Test.YtgjjkopmoobilaaGreatDoorC3M
/- Which kinds lay a column, and how long Plain is: what back asks of Pack, Sizes and Best. Plain mathematics. -/
namespace Go.Proofs.YtgjjkopmoobilaaGreatDoor
open Go.RowKit
open M
set_option linter.unusedVariables false

/-- A column is laid by each kind, save by Dict where more than 256 are unlike. -/
theorem packIs_takes64 (k n : Nat) (f : Nat → Nat) (hk1 : 1 ≤ k) (hk6 : k ≤ 6) (hf : ∀ i, i < n → f i < 18446744073709551616) (hu : ¬ (k = 4 ∧ 256 < (uq f n).length)) : ∃ bs, PackIs64 k n f bs := by
  by_cases h0 : n = 0
  · exact ⟨[], hf, fun _ => rfl, fun h => by omega⟩
  · have hS : ∃ l, codeO64 k f n = some l := by
      obtain rfl | rfl | rfl | rfl | rfl | rfl : k = 1 ∨ k = 2 ∨ k = 3 ∨ k = 4 ∨ k = 5 ∨ k = 6 := by omega
      · exact ⟨_, rfl⟩
      · exact ⟨_, rfl⟩
      · exact ⟨_, rfl⟩
      · refine ⟨dcB 64 f n, ?_⟩
        show dcO 64 f n = _
        rw [dcO, if_pos (by omega)]
      · exact ⟨_, rfl⟩
      · exact ⟨_, rfl⟩
    obtain ⟨l, hl⟩ := hS
    exact ⟨packed l, hf, fun h => absurd h h0, fun _ => ⟨l, hl, rfl⟩⟩

theorem packIs_none64 (n : Nat) (f : Nat → Nat) (hu : 256 < (uq f n).length) (bs : List Nat) (h : PackIs64 4 n f bs) : False := by
  have h0 : 0 < n := by have := uq_len f n; omega
  obtain ⟨l, h1, h2⟩ := h.2.2 h0
  have h1 : dcO 64 f n = some l := h1
  rw [dcO, if_neg (by omega)] at h1
  cases h1

theorem packIs_plain64 (n : Nat) (f : Nat → Nat) (bs : List Nat) (h : PackIs64 1 n f bs) : bs.length = 8 * n := by
  by_cases h0 : n = 0
  · rw [h.2.1 h0, h0]; rfl
  · obtain ⟨l, h1, h2⟩ := h.2.2 (by omega)
    have h1 : some (plB 64 f n) = some l := h1
    obtain rfl := Option.some.inj h1
    rw [← h2, packed_length, plB_length]; omega

/-- A kind lays a column in one way. -/
theorem packIs_one64 (k n : Nat) (f : Nat → Nat) (bs bs' : List Nat) (h : PackIs64 k n f bs) (h' : PackIs64 k n f bs') : bs = bs' := by
  by_cases h0 : n = 0
  · rw [h.2.1 h0, h'.2.1 h0]
  · obtain ⟨l, h1, h2⟩ := h.2.2 (by omega)
    obtain ⟨l', h1', h2'⟩ := h'.2.2 (by omega)
    rw [h1] at h1'
    obtain rfl := Option.some.inj h1'
    rw [← h2, ← h2']

/-- A column is laid by each kind, save by Dict where more than 256 are unlike. -/
theorem packIs_takes32 (k n : Nat) (f : Nat → Nat) (hk1 : 1 ≤ k) (hk6 : k ≤ 6) (hf : ∀ i, i < n → f i < 4294967296) (hu : ¬ (k = 4 ∧ 256 < (uq f n).length)) : ∃ bs, PackIs32 k n f bs := by
  by_cases h0 : n = 0
  · exact ⟨[], hf, fun _ => rfl, fun h => by omega⟩
  · have hS : ∃ l, codeO32 k f n = some l := by
      obtain rfl | rfl | rfl | rfl | rfl | rfl : k = 1 ∨ k = 2 ∨ k = 3 ∨ k = 4 ∨ k = 5 ∨ k = 6 := by omega
      · exact ⟨_, rfl⟩
      · exact ⟨_, rfl⟩
      · exact ⟨_, rfl⟩
      · refine ⟨dcB 32 f n, ?_⟩
        show dcO 32 f n = _
        rw [dcO, if_pos (by omega)]
      · exact ⟨_, rfl⟩
      · exact ⟨_, rfl⟩
    obtain ⟨l, hl⟩ := hS
    exact ⟨packed l, hf, fun h => absurd h h0, fun _ => ⟨l, hl, rfl⟩⟩

theorem packIs_none32 (n : Nat) (f : Nat → Nat) (hu : 256 < (uq f n).length) (bs : List Nat) (h : PackIs32 4 n f bs) : False := by
  have h0 : 0 < n := by have := uq_len f n; omega
  obtain ⟨l, h1, h2⟩ := h.2.2 h0
  have h1 : dcO 32 f n = some l := h1
  rw [dcO, if_neg (by omega)] at h1
  cases h1

theorem packIs_plain32 (n : Nat) (f : Nat → Nat) (bs : List Nat) (h : PackIs32 1 n f bs) : bs.length = 4 * n := by
  by_cases h0 : n = 0
  · rw [h.2.1 h0, h0]; rfl
  · obtain ⟨l, h1, h2⟩ := h.2.2 (by omega)
    have h1 : some (plB 32 f n) = some l := h1
    obtain rfl := Option.some.inj h1
    rw [← h2, packed_length, plB_length]; omega

/-- A kind lays a column in one way. -/
theorem packIs_one32 (k n : Nat) (f : Nat → Nat) (bs bs' : List Nat) (h : PackIs32 k n f bs) (h' : PackIs32 k n f bs') : bs = bs' := by
  by_cases h0 : n = 0
  · rw [h.2.1 h0, h'.2.1 h0]
  · obtain ⟨l, h1, h2⟩ := h.2.2 (by omega)
    obtain ⟨l', h1', h2'⟩ := h'.2.2 (by omega)
    rw [h1] at h1'
    obtain rfl := Option.some.inj h1'
    rw [← h2, ← h2']

end Go.Proofs.YtgjjkopmoobilaaGreatDoor

/- Sizes (64 bits). -/
namespace Go.Proofs.YtgjjkopmoobilaaGreatDoor
open Go.RowKit
open M
set_option linter.unusedVariables false
set_option linter.unusedSimpArgs false

/-- How many bytes a kind needs, -1 where it has none. -/
def szI64 (f : Nat → Nat) (n k : Nat) : Int := if n = 0 then 0 else match codeO64 k f n with
  | some l => ((packed l).length : Int)
  | none => -1

theorem szI64_is {f : Nat → Nat} {n k : Nat} {bs : List Nat} (h : PackIs64 k n f bs) : szI64 f n k = (bs.length : Int) := by
  unfold szI64
  split
  · rename_i h0; rw [h.2.1 h0]; rfl
  · rename_i h0
    obtain ⟨l, h1, h2⟩ := h.2.2 (by omega)
    rw [h1, ← h2]

theorem szI64_no {f : Nat → Nat} {n k : Nat} (hf : ∀ i, i < n → f i < 18446744073709551616) (h : ∀ bs, PackIs64 k n f bs → False) : szI64 f n k = -1 := by
  unfold szI64
  split
  · rename_i h0; exact (h [] ⟨hf, fun _ => rfl, fun h => by omega⟩).elim
  · rename_i h0
    cases ho : codeO64 k f n with
    | none => rfl
    | some l => exact (h _ ⟨hf, fun h => absurd h h0, fun _ => ⟨l, ho, rfl⟩⟩).elim

def szV64 (f : Nat → Nat) (n q : Nat) : List Value := (List.range q).map fun j => .int .i64 (szI64 f n (j + 1))
theorem szV64_succ (f : Nat → Nat) (n q : Nat) : szV64 f n (q + 1) = szV64 f n q ++ [.int .i64 (szI64 f n (q + 1))] := by simp [szV64, List.range_succ]

theorem infoIC64 : ∃ i5, Tryz.prog.info? 3 = some i5 ∧ i5.zero = some (.int .i64 0) ∧ i5.size = 1 ∧ i5.bytes = 8 := by
  have hz : (Tryz.prog.info? 3).bind (·.zero) = some (.int .i64 0) := by kernel_rfl
  have hs : (Tryz.prog.info? 3).map (·.size) = some 1 := by kernel_rfl
  have hb : (Tryz.prog.info? 3).map (·.bytes) = some 8 := by kernel_rfl
  cases hi : Tryz.prog.info? 3 with
  | none => simp [hi] at hs
  | some i5 =>
    simp only [hi, Option.bind_some, Option.map_some, Option.some.injEq] at hz hs hb
    exact ⟨i5, rfl, hz, hs, hb⟩

theorem sizes64_many (p : Option Addr) (n cap : Nat) (w : World) (hn : 4096 < n) : Calls Tryz.prog 26 #[.slice p n cap] w fun e w' => e = .returned (.tuple #[.slice none 0 0, .int .i64 81]) ∧ w' = w := by
  go_enter Tryz.func26, Tryz.ntmps26
  go_wp2_with fail
  go_ret2
  exact ⟨rfl, rfl⟩

set_option maxRecDepth 100000 in
set_option maxHeartbeats 1000000 in
theorem sizes64_any (p : Option Addr) (n cap : Nat) (f : Nat → Nat) (w : World) (h : URow64 w p n f) (hn : n ≤ 4096) (hcap : n ≤ cap) (hf : ∀ i, i < n → f i < 18446744073709551616) (hT : Tab64 w) :
    Calls Tryz.prog 26 #[.slice p n cap] w fun e w' => ∃ v, e = .returned (.tuple #[v, .int .i64 0]) ∧ w'.ownsRow w.heap.size 3 1 v 6 (szV64 f n 6) ∧ Below w.heap.size w w' := by
  have HAG := hide (fun k w1 (hk1 : 1 ≤ k) (hk6 : k ≤ 6) (hB : Below w.heap.size w w1) => cAgain64 k p n cap f w1 hk1 hk6 (h.below hB) hn hcap hf (hT.below hB))
  have HFF := hide hf
  obtain ⟨i5, Hi⟩ := infoIC64
  have HI5 := hide Hi
  have H0 : Hid ((w.alloc (.cells #[] 3)).ownsRow w.heap.size 3 1 (.slice (some ⟨w.heap.size, 0, none⟩) 0 0) 0 (szV64 f n 0) ∧ Below w.heap.size w (w.alloc (.cells #[] 3))) := by
    refine ⟨?_, (Below.refl _ w).alloc (Nat.le_refl _) _⟩
    have := World.ownsRow_made (base := w.heap.size) (e := 3) (size := 1) w #[] 0 (Nat.le_refl _) (by have : maxLen = 9223372036854775807 := rfl; omega) (by simp)
    exact this
  clear h hf hT Hi
  go_enter Tryz.func26, Tryz.ntmps26
  go_upto_region 4 with fail
  generalize w.alloc (.cells #[] 3) = w0 at *
  go_wp2_with fail
  go_loopw [4, 5] (fun t4 t5 wr => ∃ (q : Nat) (pu : Option Addr) (cu : Nat), t5 = .int .i64 ((q : Int) + 1) ∧ t4 = .slice pu q cu ∧ Hid (q ≤ 6 ∧ wr.ownsRow w.heap.size 3 1 (.slice pu q cu) q (szV64 f n q) ∧ Below w.heap.size w wr)) (fun _ t5 _ => 7 - (intOf t5).toNat)
  case atStart => exact ⟨0, _, 0, rfl, rfl, by omega, H0.out.1, H0.out.2⟩
  case round =>
    obtain ⟨q, pu, cu, rfl, rfl, hI⟩ := hrel
    by_cases hlt : q + 1 ≤ 6
    · have hle : (q : Int) + 1 ≤ 6 := by omega
      have HQ := hide (HAG.out (q + 1) wr (by omega) hlt hI.out.2.2)
      rw [show (((q + 1 : Nat)) : Int) = (q : Int) + 1 from by simp] at HQ
      go_wp2_with fail
      refine HQ.out.mono ?_
      intro e w2 hE
      rcases hE with ⟨pv, cv, bv, rfl, h2, h3, h4, h5, h6⟩ | ⟨rfl, h4, h3⟩
      · have HBB : Hid (Below w.heap.size w w2) := hI.out.2.2.trans (h4.mono hI.out.2.2.size)
        have HOWN : Hid (w2.ownsRow w.heap.size 3 1 (.slice pu q cu) q (szV64 f n q)) := ownsRow_keepC64 hI.out.2.1 (fun g _ hg => h4.block g hg)
        have HSZ : Hid (szI64 f n (q + 1) = (bv.length : Int)) := szI64_is h5
        have hs2 : w.heap.size ≤ (w2.alloc (.cells #[.int .i64 (bv.length : Int)] 3)).heap.size := by have := HBB.out.size; simp; omega
        clear h2 h3 h4 h5 h6 hI
        go_wp2_with (at_builtin; refine wpList_append_lies _ rfl _ _ _ rfl w.heap.size 3 i5 (.int .i64 0) 1 8 Tryz.underlying25 HI5.out.1 HI5.out.2.1 HI5.out.2.2.1 HI5.out.2.2.2 rfl (by decide) (.slice pu q cu) q (szV64 f n q) rfl (HOWN.out.alloc _) ⟨w2.heap.size, 0, none⟩ 1 1 [.int .i64 (bv.length : Int)] rfl rfl (fun j u hj => cell_new164 w2 _ 3 j u hj) (fun u hu => by simp at hu; subst hu; rfl) (by omega) (by have : maxLen = 9223372036854775807 := rfl; omega) (by omega) hs2 _ rfl ?_; intro g6 cap6 w6 hown6 hgrow6 hat6 hlt6)
        have HS6 : Hid (w6.ownsRow w.heap.size 3 1 (.slice (some ⟨g6, 0, none⟩) (q + 1) cap6) (q + 1) (szV64 f n (q + 1)) ∧ Below w.heap.size w w6) := by
          have hB6 : Below w.heap.size (w2.alloc (.cells #[.int .i64 (bv.length : Int)] 3)) w6 := grown_below64 hgrow6 (fun g hg => (HOWN.out.lt g hg).1) hs2
          refine ⟨?_, (HBB.out.alloc (by have := HBB.out.size; omega) _).trans hB6⟩
          rw [szV64_succ, HSZ.out]; exact hown6
        clear hown6 hgrow6 hat6 hlt6
        go_wp2_with fail
        go_roundw
        case rel => exact ⟨q + 1, some ⟨g6, 0, none⟩, cap6, by simp, rfl, hlt, HS6.out.1, HS6.out.2⟩
        case measure => simp [intOf]; omega
      · have HBB : Hid (Below w.heap.size w w2) := hI.out.2.2.trans (h4.mono hI.out.2.2.size)
        have HOWN : Hid (w2.ownsRow w.heap.size 3 1 (.slice pu q cu) q (szV64 f n q)) := ownsRow_keepC64 hI.out.2.1 (fun g _ hg => h4.block g hg)
        have HSZ : Hid (szI64 f n (q + 1) = -1) := szI64_no HFF.out h3
        have hs2 : w.heap.size ≤ (w2.alloc (.cells #[.int .i64 (-1)] 3)).heap.size := by have := HBB.out.size; simp; omega
        clear h3 h4 hI
        go_wp2_with (at_builtin; refine wpList_append_lies _ rfl _ _ _ rfl w.heap.size 3 i5 (.int .i64 0) 1 8 Tryz.underlying25 HI5.out.1 HI5.out.2.1 HI5.out.2.2.1 HI5.out.2.2.2 rfl (by decide) (.slice pu q cu) q (szV64 f n q) rfl (HOWN.out.alloc _) ⟨w2.heap.size, 0, none⟩ 1 1 [.int .i64 (-1)] rfl rfl (fun j u hj => cell_new164 w2 _ 3 j u hj) (fun u hu => by simp at hu; subst hu; rfl) (by omega) (by have : maxLen = 9223372036854775807 := rfl; omega) (by omega) hs2 _ rfl ?_; intro g6 cap6 w6 hown6 hgrow6 hat6 hlt6)
        have HS6 : Hid (w6.ownsRow w.heap.size 3 1 (.slice (some ⟨g6, 0, none⟩) (q + 1) cap6) (q + 1) (szV64 f n (q + 1)) ∧ Below w.heap.size w w6) := by
          have hB6 : Below w.heap.size (w2.alloc (.cells #[.int .i64 (-1)] 3)) w6 := grown_below64 hgrow6 (fun g hg => (HOWN.out.lt g hg).1) hs2
          refine ⟨?_, (HBB.out.alloc (by have := HBB.out.size; omega) _).trans hB6⟩
          rw [szV64_succ, HSZ.out]; exact hown6
        clear hown6 hgrow6 hat6 hlt6
        go_wp2_with fail
        go_roundw
        case rel => exact ⟨q + 1, some ⟨g6, 0, none⟩, cap6, by simp, rfl, hlt, HS6.out.1, HS6.out.2⟩
        case measure => simp [intOf]; omega
    · have hq : q = 6 := by have := hI.out.1; omega
      subst hq
      go_wp2_with fail
      go_ret2
      exact ⟨_, rfl, hI.out.2.1, hI.out.2.2⟩

end Go.Proofs.YtgjjkopmoobilaaGreatDoor

/- Columns of which every value is changed by the same bits; bytes behind the first value's; plain. -/
namespace Go.Proofs.YtgjjkopmoobilaaGreatDoor.M
set_option linter.unusedVariables false

theorem xor_turn (a b c : Nat) : (a ^^^ c) ^^^ (b ^^^ c) = a ^^^ b := by
  rw [Nat.xor_assoc, ← Nat.xor_assoc c b c, Nat.xor_comm c b, Nat.xor_assoc b c c, Nat.xor_self, Nat.xor_zero]

/-- The bits behind the first value's. -/
def rst (W K : Nat) (f : Nat → Nat) : Nat → List Bool
  | 0 => []
  | n + 1 => rst W K f n ++ xbf W K f n

theorem cbn_rst (W K : Nat) (f : Nat → Nat) : ∀ n, cbn W K f (n + 1) = bitsOf (f 0) W ++ rst W K f n
  | 0 => by rw [cbn_one]; simp [rst]
  | n + 1 => by rw [cbn_step, cbn_rst W K f n, List.append_assoc]; rfl

theorem win_turn (W K c : Nat) (f g : Nat → Nat) : ∀ n, (∀ i, i ≤ n → g i = f i ^^^ c) → win W K g n = win W K f n
  | 0, _ => rfl
  | n + 1, h => by simp only [win]; rw [win_turn W K c f g n (fun i hi => h i (by omega)), h (n + 1) (by omega), h n (by omega), xor_turn]

theorem rst_turn (W K c : Nat) (f g : Nat → Nat) : ∀ n, (∀ i, i ≤ n → g i = f i ^^^ c) → rst W K g n = rst W K f n
  | 0, _ => rfl
  | n + 1, h => by
    simp only [rst]
    rw [rst_turn W K c f g n (fun i hi => h i (by omega))]
    unfold xbf
    rw [win_turn W K c f g n (fun i hi => h i (by omega)), h (n + 1) (by omega), h n (by omega), xor_turn]

theorem byteAt_drop (l r : List Bool) (k i : Nat) (h : l.length = 8 * k) : byteAt (l ++ r) (k + i) = byteAt r i := by
  unfold byteAt
  have e : (l ++ r).drop (8 * (k + i)) = r.drop (8 * i) := by
    rw [show 8 * (k + i) = l.length + 8 * i by omega, List.drop_append]
    simp
  rw [e]

theorem packed_drop (l r : List Bool) (k : Nat) (h : l.length = 8 * k) : (packed (l ++ r)).drop k = packed r := by
  apply List.ext_getElem
  · simp; omega
  · intro i h1 h2
    simp [packed, byteAt_drop l r k i h]

/-- Lengths and bytes behind the first value's are the same. -/
theorem turn_bytes (W K c k : Nat) (f g : Nat → Nat) (n : Nat) (hW : W = 8 * k) (h : ∀ i, i < n + 1 → g i = f i ^^^ c) :
    (packed (cbn W K g (n + 1))).length = (packed (cbn W K f (n + 1))).length ∧ (packed (cbn W K g (n + 1))).drop k = (packed (cbn W K f (n + 1))).drop k ∧ k ≤ (packed (cbn W K f (n + 1))).length := by
  have e := rst_turn W K c f g n (fun i hi => h i (by omega))
  rw [cbn_rst, cbn_rst, e]
  refine ⟨by simp, ?_, by simp; omega⟩
  rw [packed_drop _ _ k (by simp [hW]), packed_drop _ _ k (by simp [hW])]

end Go.Proofs.YtgjjkopmoobilaaGreatDoor.M

/- CodeEnds: kinds that there are not, too many values, squares, odd floats. -/
namespace Go.Proofs.YtgjjkopmoobilaaGreatDoor
open Go.RowKit
open M
set_option linter.unusedVariables false
set_option linter.unusedSimpArgs false

/-- A row of six sizes. -/
theorem sizes_cap8 {B : Nat} {w : World} {v : Value} {xs : List Value} (h : w.ownsRow B 3 1 v 6 xs) :
    ∃ g cap, v = .slice (some ⟨g, 0, none⟩) 6 cap ∧ 6 ≤ cap ∧ ∀ j u, j < 6 → xs[j]? = some u → w.cell? ⟨g, j, none⟩ = some u := by
  rcases h.2 with ⟨h1, h2⟩ | ⟨g, cap2, cur, h1, hb, hg, hc2, hm2, hs, ht⟩
  · omega
  · refine ⟨g, cap2, h1, hc2, fun j u hj e => ?_⟩
    rw [cell_of_row w g j cur _ (0, 0) hg, ← e, ← ht, List.getElem?_take, if_pos (by omega)]
    simp

theorem dcB_len8 (W : Nat) (f : Nat → Nat) (n : Nat) : (dcB W f n).length = 8 + W * (uq f n).length + bitLen ((uq f n).length - 1) * n := by
  rw [dcB, List.length_append, List.length_append, plL_length, pcB_length, bitsOf_length]

set_option maxRecDepth 100000 in
theorem best64_many (p : Option Addr) (n cap : Nat) (w : World) (hn : 4096 < n) :
    Calls Tryz.prog 27 #[.slice p n cap] w fun e w' => e = .returned (.tuple #[.int .i64 0, .slice none 0 0, .int .i64 81]) ∧ Below w.heap.size w w' := by
  go_enter Tryz.func27, Tryz.ntmps27
  go_wp2_with fail
  refine (cPack64_many 1 p n cap w (by omega) (by omega) hn).mono ?_
  rintro e w1 ⟨rfl, B1⟩
  have HB := hide B1
  clear B1
  go_wp2_with fail
  go_ret3
  exact ⟨rfl, HB.out⟩

/-- Squares. -/
def sqF (i : Nat) : Nat := i * i
theorem sqF_lt (i : Nat) (h : i < 4097) : sqF i < 18446744073709551616 := by
  have : i * i < 4097 * 4097 := Nat.mul_self_lt_mul_self h
  unfold sqF; omega
theorem uq_sq : ∀ n, (uq sqF n).length = n
  | 0 => rfl
  | n + 1 => by
    rw [uq, if_neg, List.length_append, uq_sq n]
    · rfl
    · intro h
      obtain ⟨i, hi, e⟩ := uq_of _ _ _ h
      have : i * i < n * n := Nat.mul_self_lt_mul_self hi
      unfold sqF at e; omega

theorem sq_dict (bs : List Nat) (h : PackIs64 4 256 sqF bs) : bs.length = 2305 := by
  obtain ⟨l, h1, h2⟩ := h.2.2 (by omega)
  have h1 : dcO 64 sqF 256 = some l := h1
  rw [dcO, if_pos (by rw [uq_sq]; omega)] at h1
  obtain rfl := Option.some.inj h1
  have hb : bitLen 255 = 8 := by decide +kernel
  rw [← h2, packed_length, dcB_len8, uq_sq, hb]

/-- Odd floats. -/
def od8L : List Nat := [9223372036854775808, 9218868437227405312, 18442240474082181120, 9221120237041090561, 9218868437227405313, 1, 9223372036854775809, 9218868437227405311, 4831355200913801216, 4936209963552724370]
def od8F (i : Nat) : Nat := od8L.getD i 0
theorem od8_lt : ∀ i, i < 10 → od8F i < 18446744073709551616 := by
  have : ∀ i : Fin 10, od8F i.val < 18446744073709551616 := by decide +kernel
  exact fun i hi => this ⟨i, hi⟩

def od8Z : List Int := [9223372036854775808, 9218868437227405312, 18442240474082181120, 9221120237041090561, 9218868437227405313, 1, 9223372036854775809, 9218868437227405311, 4831355200913801216, 4936209963552724370]

theorem od8_row {w : World} {g : Nat} {t : TypeId} (h : w.heap[g]? = some (.cells (od8Z.map (Value.int .u64)).toArray t (0, 0))) : URow64 w (some ⟨g, 0, none⟩) 10 od8F := fun _ =>
  ⟨g, 0, rfl, fun i hi => by
    rw [cell_of_row _ _ _ _ _ _ h]
    rcases (show i = 0 ∨ i = 1 ∨ i = 2 ∨ i = 3 ∨ i = 4 ∨ i = 5 ∨ i = 6 ∨ i = 7 ∨ i = 8 ∨ i = 9 by omega) with rfl | rfl | rfl | rfl | rfl | rfl | rfl | rfl | rfl | rfl <;> rfl⟩

set_option maxRecDepth 100000 in
/-- The negative nought is nothing at any scale. -/
theorem wh_minus (p : Nat) (hp : p ≤ 22) : (F64.wh p 9223372036854775808).isSome = false := by
  have h : ∀ p : Fin 23, (F64.wh p.val 9223372036854775808).isSome = false := by decide +kernel
  exact h ⟨p, by omega⟩

theorem byte_five (c : Nat) (r : List Bool) : byteAt (bitsOf c 5 ++ r) 0 / 8 = c % 32 := by
  unfold byteAt
  rw [Nat.mul_zero, List.drop_zero, List.take_append, List.take_of_length_le (by simp), num_append, num_bitsOf]
  have hk : (r.take (8 - (bitsOf c 5).length)).length ≤ 3 := by simp; omega
  have hn := num_lt (r.take (8 - (bitsOf c 5).length))
  generalize r.take (8 - (bitsOf c 5).length) = q at *
  rw [List.length_append, bitsOf_length]
  generalize num q = m at *
  obtain h | h | h | h : q.length = 0 ∨ q.length = 1 ∨ q.length = 2 ∨ q.length = 3 := by omega
  all_goals rw [h] at hn ⊢; simp only [Nat.reducePow, Nat.reduceAdd, Nat.reduceSub] at hn ⊢; omega

theorem od8_none : 2 ≤ (packed (F64.dm 64 od8F 10)).length ∧ (packed (F64.dm 64 od8F 10)).getD 1 0 / 8 ≠ 0 := by
  obtain ⟨p, hp⟩ : ∃ p, (F64.bs od8F 10 F64.mostP).1 = p := ⟨_, rfl⟩
  have hp22 : p ≤ 22 := by rw [← hp]; exact F64.bs_le od8F 10 22
  have hc1 : 1 ≤ F64.cnt p od8F 0 10 := by
    rw [Dm.cnt, show od8F 0 = 9223372036854775808 from rfl, if_neg (by rw [wh_minus p hp22]; simp)]; omega
  have hc2 := F64.cnt_le p od8F 0 10
  unfold Dm.dm
  rw [hp]
  generalize F64.cnt p od8F 0 10 = c at *
  generalize F64.nt 64 p od8F 0 10 0 ++ F64.wb p od8F 0 10 0 = r
  have e : bitsOf p 5 ++ (varB c ++ r) = (bitsOf p 5 ++ bitsOf (c / 32) 3) ++ (bitsOf c 5 ++ r) := by
    unfold varB
    rw [groups_small _ _ (by omega), show (8 : Nat) = 3 + 5 from rfl, bitsOf_split c 3 5]
    simp
  have hl : 13 ≤ (bitsOf p 5 ++ (varB c ++ r)).length := by rw [e]; simp; omega
  refine ⟨by rw [packed_length]; omega, ?_⟩
  rw [packed_getD _ 1 (by omega), e, show (1 : Nat) = 1 + 0 from rfl, byteAt_drop _ _ 1 0 (by simp), byte_five]
  omega

theorem dm_short (f : Nat → Nat) (n : Nat) (hn : n ≤ 4096) : (packed (F64.dm 64 f n)).length ≤ 1000000000000 := by
  have := dm_len64 f n
  rw [packed_length]; omega

theorem getD_lt8 (bs : List Nat) (h : ∀ n ∈ bs, n < 256) (k : Nat) : bs.getD k 0 < 256 := by
  rw [List.getD_eq_getElem?_getD]
  by_cases hk : k < bs.length
  · rw [List.getElem?_eq_getElem hk]; exact h _ (List.getElem_mem hk)
  · rw [List.getElem?_eq_none (by omega)]; simp

/-- What Pack tells of the odd floats. -/
def OdEnd (w : World) (e : Ending) (w' : World) : Prop := ∃ (g : Nat) (bs : List Nat), e = .returned (.tuple #[.slice (some ⟨g, 0, none⟩) bs.length bs.length, .int .i64 0]) ∧
  w'.heap[g]? = some (.cells (bytesV bs).toArray 5 (0, 0)) ∧ Below w.heap.size w w' ∧ PackIs64 6 10 od8F bs ∧ 2 ≤ bs.length ∧ bs.getD 1 0 / 8 ≠ 0 ∧ bs.length ≤ 1000000000000 ∧ ∀ n ∈ bs, n < 256

theorem od_end {w : World} {e : Ending} {w' : World} {l : List Bool} (hl : F64.dm 64 od8F 10 = l) (h : RowEnd64 l w e w') : OdEnd w e w' := by
  obtain ⟨g, L, h1, h2, h3, h4, h5⟩ := h
  subst h1
  have hn := od8_none
  have hs := dm_short od8F 10 (by omega)
  rw [hl] at hn hs
  exact ⟨g, packed l, h3, h4, h5, ⟨od8_lt, fun h => by omega, fun _ => ⟨l, by rw [← hl]; rfl, rfl⟩⟩, hn.1, hn.2, hs, packed_lt l⟩

theorem od8_pack (p : Option Addr) (cap : Nat) (w : World) (h : URow64 w p 10 od8F) (hcap : 10 ≤ cap) (hT : Tab64 w) : Calls Tryz.prog 16 #[.int .i64 6, .slice p 10 cap] w (OdEnd w) := by
  obtain ⟨l, hl⟩ : ∃ l, F64.dm 64 od8F 10 = l := ⟨_, rfl⟩
  refine (cPack64_some 6 p 10 cap od8F w (by omega) (by omega) h (by omega) (by omega) hcap od8_lt hT).mono ?_
  intro e w' hE
  have e6 : codeO64 6 od8F 10 = some l := by rw [← hl]; rfl
  rw [e6] at hE
  exact od_end hl hE

set_option maxRecDepth 100000 in
theorem none8_false (g : Nat) (bs : List Nat) (w : World) (h : w.heap[g]? = some (.cells (bytesV bs).toArray 5 (0, 0))) (hl : 2 ≤ bs.length) (hl2 : bs.length ≤ 1000000000000) (hb : bs.getD 1 0 / 8 ≠ 0) (hlt : bs.getD 1 0 < 256) :
    Calls Tryz.prog 25 #[.slice (some ⟨g, 0, none⟩) bs.length bs.length] w fun e w' => e = .returned (.bool false) ∧ w' = w := by
  have hc : ∀ j, j < bs.length → w.cell? ⟨g, j, none⟩ = some (.int .u8 ((bs.getD j 0 : Nat) : Int)) := fun j hj => by rw [cell_of_row _ _ _ _ _ _ h]; simp [bytesV, List.getD, hj]
  have c0 := hc 0 (by omega)
  have c1 := hc 1 (by omega)
  generalize bs.getD 0 0 = x at c0
  generalize bs.getD 1 0 = y at c1 hb hlt
  generalize bs.length = L at *
  clear h hc
  have e1 : ((y : Int) / 8 == 0) = false := by rw [beq_eq_false_iff_ne]; omega
  have e2 : ((y / 8 : Nat) : Int) ≠ 0 := by omega
  by_cases hx : x % 8 = 0
  · have f1 : ((x : Int).tmod 8 == 0) = true := by rw [beq_iff_eq, Int.tmod_eq_emod_of_nonneg (by omega)]; omega
    go_enter Tryz.func25, Tryz.ntmps25
    go_wp2_with fail
    go_ret
    exact ⟨by rw [← e1]; rfl, rfl⟩
  · have f1 : ((x : Int).tmod 8 == 0) = false := by rw [beq_eq_false_iff_ne, Int.tmod_eq_emod_of_nonneg (by omega)]; omega
    go_enter Tryz.func25, Tryz.ntmps25
    go_wp2_with fail
    go_ret
    exact ⟨rfl, rfl⟩

end Go.Proofs.YtgjjkopmoobilaaGreatDoor

namespace Go.Proofs.YtgjjkopmoobilaaGreatDoor
open Go.RowKit
set_option linter.unusedVariables false

theorem cell_new8 (w : World) (v : Value) (t : TypeId) (j : Nat) (u : Value) (h : [v][j]? = some u) : (w.alloc (.cells #[v] t)).cell? ((⟨w.heap.size, 0, none⟩ : Addr).add j) = some u := by
  have hn := heap_alloc_new w (.cells #[v] t)
  rw [Addr.add_mid, Nat.zero_add, cell_of_row _ _ _ _ _ _ hn]
  cases j with
  | zero => simpa using h
  | succ j => simp at h

end Go.Proofs.YtgjjkopmoobilaaGreatDoor

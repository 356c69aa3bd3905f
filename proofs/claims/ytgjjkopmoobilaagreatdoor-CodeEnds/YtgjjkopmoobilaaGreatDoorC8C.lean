/- CodeEnds: the walk. -/
import Derived.Test.YtgjjkopmoobilaaGreatDoorC6A32
import Derived.BigQuiet
import Derived.Test.YtgjjkopmoobilaaGreatDoorC3M
import Derived.Test.YtgjjkopmoobilaaGreatDoorC1A32
import Derived.Test.YtgjjkopmoobilaaGreatDoorC5C
import Derived.Deep.CutBlock
import Derived.Deep.DeepCutAuto
import Derived.Deep.CutRange
import Derived.Great.BuildSlice
/- CodeMoves: three rows of one's own; the law's own tail and sizes. -/
namespace Go.Proofs.YtgjjkopmoobilaaGreatDoor
open Go.RowKit
open M
set_option linter.unusedVariables false
set_option linter.unusedSimpArgs false

theorem ap_symm {a b : Option Nat} (h : a = none ∨ a ≠ b) : b = none ∨ b ≠ a := by
  rcases h with h | h
  · subst h; cases b <;> simp
  · exact .inr fun e => h e.symm

/-- Three rows of one's own, apart from one another. -/
structure T3 (B : Nat) (ty : TypeId) (w0 wr : World) (n1 n2 n3 : Nat) (x1 x2 x3 : List Value) (v1 v2 v3 : Value) : Prop where
  o1 : wr.ownsRow B ty 1 v1 n1 x1
  o2 : wr.ownsRow B ty 1 v2 n2 x2
  o3 : wr.ownsRow B ty 1 v3 n3 x3
  a12 : v1.ownBlock = none ∨ v1.ownBlock ≠ v2.ownBlock
  a23 : v2.ownBlock = none ∨ v2.ownBlock ≠ v3.ownBlock
  a31 : v3.ownBlock = none ∨ v3.ownBlock ≠ v1.ownBlock
  bel : Below B w0 wr
  hB : B ≤ w0.heap.size

theorem T3.nil (ty : TypeId) (w : World) : T3 w.heap.size ty w w 0 0 0 [] [] [] (.slice none 0 0) (.slice none 0 0) (.slice none 0 0) :=
  ⟨World.ownsRow_nil _ _ _ _, World.ownsRow_nil _ _ _ _, World.ownsRow_nil _ _ _ _, .inl rfl, .inl rfl, .inl rfl, Below.refl _ _, Nat.le_refl _⟩

theorem T3.rot {B : Nat} {ty : TypeId} {w0 wr : World} {n1 n2 n3 : Nat} {x1 x2 x3 : List Value} {v1 v2 v3 : Value} (h : T3 B ty w0 wr n1 n2 n3 x1 x2 x3 v1 v2 v3) : T3 B ty w0 wr n2 n3 n1 x2 x3 x1 v2 v3 v1 :=
  ⟨h.o2, h.o3, h.o1, h.a23, h.a31, h.a12, h.bel, h.hB⟩

theorem T3.keep {B : Nat} {ty : TypeId} {w0 wr wa : World} {n1 n2 n3 : Nat} {x1 x2 x3 : List Value} {v1 v2 v3 : Value} (h : T3 B ty w0 wr n1 n2 n3 x1 x2 x3 v1 v2 v3) (ha : Below wr.heap.size wr wa) : T3 B ty w0 wa n1 n2 n3 x1 x2 x3 v1 v2 v3 :=
  ⟨ownsRow_keepC64 h.o1 fun g _ hg => ha.block g hg, ownsRow_keepC64 h.o2 fun g _ hg => ha.block g hg, ownsRow_keepC64 h.o3 fun g _ hg => ha.block g hg, h.a12, h.a23, h.a31, h.bel.trans (ha.mono (Nat.le_trans h.hB h.bel.size)), h.hB⟩

theorem T3.step {B : Nat} {ty : TypeId} {w0 wr w4 : World} {n1 n2 n3 m g cap : Nat} {x1 x2 x3 y : List Value} {v1 v2 v3 : Value} (h : T3 B ty w0 wr n1 n2 n3 x1 x2 x3 v1 v2 v3)
    (ho : w4.ownsRow B ty 1 (.slice (some ⟨g, 0, none⟩) m cap) m y) (hg : wr.grownBy w4 v1.ownBlock) (hat : v1.ownBlock = some g ∨ g = wr.heap.size) : T3 B ty w0 w4 m n2 n3 y x2 x3 (.slice (some ⟨g, 0, none⟩) m cap) v2 v3 := by
  have ap : ∀ {v : Value} {n : Nat} {x : List Value}, wr.ownsRow B ty 1 v n x → (v.ownBlock = none ∨ v.ownBlock ≠ v1.ownBlock) → (v.ownBlock = none ∨ v.ownBlock ≠ some g) := fun hv ha => by
    rcases hat with e | e
    · rw [e] at ha; exact ha
    · refine .inr fun e2 => ?_
      have := (hv.lt g e2).2
      omega
  refine ⟨ho, h.o2.kept hg (ap_symm h.a12), h.o3.kept hg h.a31, ap_symm (ap h.o2 (ap_symm h.a12)), h.a23, ap h.o3 h.a31, h.bel.trans ?_, h.hB⟩
  exact grown_below64 hg (fun k hk => (h.o1.lt k hk).1) (Nat.le_trans h.hB h.bel.size)

/-- A row of six sizes. -/
theorem sizes_cap {B : Nat} {w : World} {v : Value} {xs : List Value} (h : w.ownsRow B 3 1 v 6 xs) :
    ∃ g cap, v = .slice (some ⟨g, 0, none⟩) 6 cap ∧ 6 ≤ cap ∧ ∀ j u, j < 6 → xs[j]? = some u → w.cell? ⟨g, j, none⟩ = some u := by
  rcases h.2 with ⟨h1, h2⟩ | ⟨g, cap2, cur, h1, hb, hg, hc2, hm2, hs, ht⟩
  · omega
  · refine ⟨g, cap2, h1, hc2, fun j u hj e => ?_⟩
    rw [cell_of_row w g j cur _ (0, 0) hg, ← e, ← ht, List.getElem?_take, if_pos (by omega)]
    simp

set_option maxRecDepth 100000 in
theorem sizesEq8_any (g g' n c c' : Nat) (a : Nat → Int) (w : World) (hn : n ≤ 1000000) (h : ∀ j, j < n → w.cell? ⟨g, j, none⟩ = some (.int .i64 (a j))) (h' : ∀ j, j < n → w.cell? ⟨g', j, none⟩ = some (.int .i64 (a j))) :
    Calls Tryz.prog 29 #[.slice (some ⟨g, 0, none⟩) n c, .slice (some ⟨g', 0, none⟩) n c'] w fun e w' => e = .returned (.bool true) ∧ ∃ m, w' = w.drewN m := by
  have H := hide h
  have H' := hide h'
  clear h h'
  go_enter Tryz.func29, Tryz.ntmps29
  go_wp2_with fail
  go_loopw [5] (fun i wr => ∃ k : Nat, i = .int .i64 (k : Int) ∧ Hid (k ≤ n) ∧ Hid (∃ m, wr = w.drewN m)) (fun i _ => n - (intOf i).toNat)
  case atStart => exact ⟨0, rfl, Nat.zero_le _, 0, rfl⟩
  case round =>
    obtain ⟨k, rfl, hk, hm⟩ := hrel
    by_cases hlt : k < n
    · obtain ⟨x, hx⟩ : ∃ x, a k = x := ⟨_, rfl⟩
      have c1 : wr.cell? ⟨g, k, none⟩ = some (.int .i64 x) := by obtain ⟨m, rfl⟩ := hm.out; rw [← hx]; exact H.out k hlt
      have c2 : wr.cell? ⟨g', k, none⟩ = some (.int .i64 x) := by obtain ⟨m, rfl⟩ := hm.out; rw [← hx]; exact H'.out k hlt
      clear hx
      go_wp2_with fail
      go_region
      go_wp2_with fail
      go_roundw
      case rel => exact ⟨k + 1, by simp, hlt, by obtain ⟨m, rfl⟩ := hm.out; exact ⟨m + 1, rfl⟩⟩
      case measure => simp [intOf]; omega
    · go_wp2_with fail
      go_ret
      exact ⟨rfl, hm.out⟩

/-- Where bytes end that are 128 and more. -/
def hd128 : List Nat → Nat
  | [] => 0
  | a :: t => if 128 ≤ a then hd128 t + 1 else 0
theorem hd128_le (l : List Nat) : hd128 l ≤ l.length := by
  induction l with
  | nil => exact Nat.le_refl _
  | cons a t ih => rw [hd128]; split <;> simp <;> omega
theorem hd128_lt (l : List Nat) (k : Nat) (h : k < hd128 l) : 128 ≤ l.getD k 0 := by
  induction l generalizing k with
  | nil => simp [hd128] at h
  | cons a t ih =>
    rw [hd128] at h
    split at h
    · cases k with
      | zero => simpa
      | succ k => simp only [List.getD_cons_succ]; exact ih k (by omega)
    · omega
theorem hd128_at (l : List Nat) (h : hd128 l < l.length) : l.getD (hd128 l) 0 < 128 := by
  induction l with
  | nil => simp [hd128] at h
  | cons a t ih =>
    by_cases e : 128 ≤ a
    · simp only [hd128, if_pos e, List.length_cons] at h
      simp only [hd128, if_pos e, List.getD_cons_succ]
      exact ih (by omega)
    · simp only [hd128, if_neg e, List.getD_cons_zero]; omega
theorem tailL_drop (l : List Nat) : tailL l = l.drop (if hd128 l < l.length then hd128 l + 1 else hd128 l) := by
  induction l with
  | nil => rfl
  | cons a t ih =>
    by_cases e : 128 ≤ a
    · have h1 := hd128_le t
      simp only [tailL, hd128, if_pos e, ih]
      by_cases e2 : hd128 t < t.length
      · rw [if_pos e2, if_pos (by simp; omega)]; rfl
      · rw [if_neg e2, if_neg (by simp; omega)]; rfl
    · simp only [tailL, hd128, if_neg e]
      rw [if_pos (by simp)]; rfl

/-- Bytes in a block of their own, or none. -/
def OwnBs (w : World) (v : Value) (bs : List Nat) : Prop := (v = .slice none 0 0 ∧ bs = []) ∨ ∃ g, v = .slice (some ⟨g, 0, none⟩) bs.length bs.length ∧ w.heap[g]? = some (.cells (bytesV bs).toArray 5 (0, 0))

theorem OwnBs.below {w w' : World} {v : Value} {bs : List Nat} (h : OwnBs w v bs) (hB : Below w.heap.size w w') : OwnBs w' v bs := by
  rcases h with h | ⟨g, h1, h2⟩
  · exact .inl h
  · exact .inr ⟨g, h1, by rw [hB.block g (size_lt_of_row h2)]; exact h2⟩

/-- What is left of a row of L bytes in a block of its own behind k of them. -/
def sl8 (g k L : Nat) : Value := if L = k then .slice (some ⟨g, 0, none⟩) 0 0 else .slice (some ⟨g, k, none⟩) (L - k) (L - k)

theorem isBy_cut {w : World} {g : Nat} {bs : List Nat} (h : w.heap[g]? = some (.cells (bytesV bs).toArray 5 (0, 0))) (k : Nat) (hk : k ≤ bs.length) : IsBy w (sl8 g k bs.length) (bs.drop k) := by
  unfold sl8
  by_cases e : bs.length = k
  · rw [if_pos e]
    exact .inr ⟨_, _, rfl, by rw [← e]; simp⟩
  · rw [if_neg e]
    refine .inl (.inr ⟨g, k, bs.length - k, by simp, fun i hi => ?_⟩)
    rw [cell_of_row _ _ _ _ _ _ h]
    have hi' : k + i < bs.length := by simp at hi; omega
    simp [bytesV, List.getD, hi']

set_option maxRecDepth 100000 in
set_option maxHeartbeats 1000000 in
theorem tail8_any (v : Value) (bs : List Nat) (w : World) (h : OwnBs w v bs) (hl : bs.length ≤ 1000000000000) :
    Calls Tryz.prog 28 #[v] w fun e w' => e = .returned (.string (strOf (tailL bs))) ∧ w' = w := by
  rcases h with ⟨rfl, rfl⟩ | ⟨g, rfl, hg⟩
  · have hc := convert_by w (.slice none 0 0) [] (.inl (.inl ⟨rfl, rfl⟩))
    go_enter Tryz.func28, Tryz.ntmps28
    go_wp2_with fail
    go_loopw [3] (fun t3 wr => t3 = .int .i64 0 ∧ Hid (wr = w)) (fun _ _ => 0)
    case atStart => exact ⟨rfl, rfl⟩
    case round =>
      obtain ⟨rfl, hw⟩ := hrel
      obtain rfl := hw.out
      go_wp2_with fail
      go_ret
      exact ⟨rfl, rfl⟩
  · obtain ⟨K, hK⟩ : ∃ K, hd128 bs = K := ⟨_, rfl⟩
    have hKL := hd128_le bs
    have HLT := hide (hd128_lt bs)
    have HAT := hide (hd128_at bs)
    have HD := hide (tailL_drop bs)
    have HC := hide (fun j (hj : j < bs.length) => show w.cell? ⟨g, j, none⟩ = some (.int .u8 ((bs.getD j 0 : Nat) : Int)) by rw [cell_of_row _ _ _ _ _ _ hg]; simp [bytesV, List.getD, hj])
    have HV := hide (fun k (hk : k ≤ bs.length) => convert_by w (sl8 g k bs.length) (bs.drop k) (isBy_cut hg k hk))
    have HL := hide hl
    obtain ⟨T, hT⟩ : ∃ T, tailL bs = T := ⟨_, rfl⟩
    rw [hT] at HD ⊢
    rw [hK] at HLT HAT HD hKL
    obtain ⟨L, hL⟩ : ∃ L, bs.length = L := ⟨_, rfl⟩
    rw [hL] at HAT HD HC HV HL hKL ⊢
    clear hg hK hL hl hT
    go_enter Tryz.func28, Tryz.ntmps28
    go_wp2_with fail
    go_loopw [3] (fun t3 wr => ∃ k : Nat, t3 = .int .i64 (k : Int) ∧ Hid (k ≤ K) ∧ Hid (wr = w)) (fun t3 _ => K - (intOf t3).toNat)
    case atStart => exact ⟨0, rfl, Nat.zero_le _, rfl⟩
    case round =>
      obtain ⟨k, rfl, hk, hw⟩ := hrel
      have hL12 := HL.out
      obtain rfl := hw.out
      clear hw
      by_cases hlt : k < L
      · have c1 := HC.out k hlt
        by_cases hkK : k < K
        · have hb := HLT.out k hkK
          generalize bs.getD k 0 = b at c1 hb
          go_wp2_with fail
          go_roundw
          case rel => exact ⟨k + 1, by simp, hkK, trivial⟩
          case measure => simp [intOf]; omega
        · obtain rfl : k = K := by have := hk.out; omega
          have hb := HAT.out hlt
          have hv := HV.out (k + 1) (by omega)
          have hd := HD.out
          rw [if_pos hlt] at hd
          rw [← hd] at hv
          generalize bs.getD k 0 = b at c1 hb
          unfold sl8 at hv
          clear HC HV HLT HAT HD hd
          by_cases e : L = k + 1
          · subst e
            rw [if_pos rfl] at hv
            go_wp2_with fail
            go_ret
            exact ⟨rfl, rfl⟩
          · rw [if_neg e] at hv
            go_wp2_with fail
            go_ret
            exact ⟨rfl, rfl⟩
      · obtain rfl : k = K := by have := hk.out; omega
        obtain rfl : k = L := by omega
        have hv := HV.out k (by omega)
        have hd := HD.out
        rw [if_neg hlt] at hd
        rw [← hd] at hv
        unfold sl8 at hv
        rw [if_pos rfl] at hv
        clear HC HV HLT HAT HD hd
        go_wp2_with fail
        go_ret
        exact ⟨rfl, rfl⟩

theorem stride64_is (p : Option Addr) (n cap : Nat) (f : Nat → Nat) (w : World) (h : URow64 w p n f) (hn : n ≤ 4096) (hcap : n ≤ cap) (hf : ∀ i, i < n → f i < 18446744073709551616) (hT : Tab64 w) :
    Calls Tryz.prog 16 #[.int .i64 5, .slice p n cap] w fun e w' => ∃ v, e = .returned (.tuple #[v, .int .i64 0]) ∧ OwnBs w' v (packed (stB 9223372036854775808 18446744073709551616 f n)) ∧ Below w.heap.size w w' := by
  by_cases h0 : n = 0
  · subst h0
    refine (cPack64_empty 5 p cap w (by omega) (by omega)).mono ?_
    rintro e w' ⟨rfl, hB⟩
    exact ⟨_, rfl, .inl ⟨rfl, by rw [stB]; rfl⟩, hB⟩
  · refine (cPack64_some 5 p n cap f w (by omega) (by omega) h (by omega) hn hcap hf hT).mono ?_
    rintro e w' ⟨g, L, h1, h2, rfl, h4, h5⟩
    subst h1
    exact ⟨_, rfl, .inr ⟨g, rfl, h4⟩, h5⟩

theorem stride32_is (p : Option Addr) (n cap : Nat) (f : Nat → Nat) (w : World) (h : URow32 w p n f) (hn : n ≤ 4096) (hcap : n ≤ cap) (hf : ∀ i, i < n → f i < 4294967296) (hT : Tab64 w) :
    Calls Tryz.prog 17 #[.int .i64 5, .slice p n cap] w fun e w' => ∃ v, e = .returned (.tuple #[v, .int .i64 0]) ∧ OwnBs w' v (packed (stB 2147483648 4294967296 f n)) ∧ Below w.heap.size w w' := by
  by_cases h0 : n = 0
  · subst h0
    refine (cPack32_empty 5 p cap w (by omega) (by omega)).mono ?_
    rintro e w' ⟨rfl, hB⟩
    exact ⟨_, rfl, .inl ⟨rfl, by rw [stB]; rfl⟩, hB⟩
  · refine (cPack32_some 5 p n cap f w (by omega) (by omega) h (by omega) hn hcap hf hT).mono ?_
    rintro e w' ⟨g, L, h1, h2, rfl, h4, h5⟩
    subst h1
    exact ⟨_, rfl, .inr ⟨g, rfl, h4⟩, h5⟩

/-- Sizes of a column that is turned round, or changed by the same bits. -/
def szO : Option (List Bool) → Int
  | some l => ((packed l).length : Int)
  | none => -1
theorem szO_len {a b : Option (List Bool)} (h : a.map List.length = b.map List.length) : szO a = szO b := by
  cases a <;> cases b <;> simp_all [szO]
theorem szI64_O (f : Nat → Nat) (n k : Nat) : szI64 f n k = if n = 0 then 0 else szO (codeO64 k f n) := by
  unfold szI64
  split
  · rfl
  · cases codeO64 k f n <;> rfl
theorem szI32_O (f : Nat → Nat) (n k : Nat) : szI32 f n k = if n = 0 then 0 else szO (codeO32 k f n) := by
  unfold szI32
  split
  · rfl
  · cases codeO32 k f n <;> rfl

theorem szI64_turn (f g : Nat → Nat) (n k : Nat) (hk : k = 1 ∨ k = 3 ∨ k = 4) (h : ∀ i, i < n → g i = f (n - 1 - i)) : szI64 g n k = szI64 f n k := by
  rw [szI64_O, szI64_O]
  split
  · rfl
  · refine szO_len ?_
    rcases hk with rfl | rfl | rfl
    · show some (plB _ _ _).length = some (plB _ _ _).length; rw [plB_length, plB_length]
    · show some (rnB _ _ _ _ _).length = some (rnB _ _ _ _ _).length; rw [rnB_turn 64 f g n h]
    · exact dcO_len 64 f g n (uq_turn f g n h)

theorem szI64_xor (c : Nat) (f g : Nat → Nat) (n k : Nat) (hk : k = 1 ∨ k = 2 ∨ k = 3 ∨ k = 4) (h : ∀ i, i < n → g i = f i ^^^ c) : szI64 g n k = szI64 f n k := by
  rw [szI64_O, szI64_O]
  split
  · rfl
  · rename_i h0
    rcases hk with rfl | rfl | rfl | rfl
    · refine szO_len ?_; show some (plB _ _ _).length = some (plB _ _ _).length; rw [plB_length, plB_length]
    · obtain ⟨m, rfl⟩ : ∃ m, n = m + 1 := ⟨n - 1, by omega⟩
      have := (turn_bytes 64 6 c 8 f g m rfl h).1
      show ((packed (cbn 64 6 g (m + 1))).length : Int) = ((packed (cbn 64 6 f (m + 1))).length : Int)
      rw [this]
    · refine szO_len ?_; show some (rnB _ _ _ _ _).length = some (rnB _ _ _ _ _).length; rw [rnB_xor 64 c f g n 0 n (fun j hj => h j (by omega))]
    · refine szO_len ?_; exact dcO_len 64 f g n (by rw [uq_xor c f g n h]; simp)

theorem szI32_turn (f g : Nat → Nat) (n k : Nat) (hk : k = 1 ∨ k = 3 ∨ k = 4) (h : ∀ i, i < n → g i = f (n - 1 - i)) : szI32 g n k = szI32 f n k := by
  rw [szI32_O, szI32_O]
  split
  · rfl
  · refine szO_len ?_
    rcases hk with rfl | rfl | rfl
    · show some (plB _ _ _).length = some (plB _ _ _).length; rw [plB_length, plB_length]
    · show some (rnB _ _ _ _ _).length = some (rnB _ _ _ _ _).length; rw [rnB_turn 32 f g n h]
    · exact dcO_len 32 f g n (uq_turn f g n h)

theorem szI32_xor (c : Nat) (f g : Nat → Nat) (n k : Nat) (hk : k = 1 ∨ k = 2 ∨ k = 3 ∨ k = 4) (h : ∀ i, i < n → g i = f i ^^^ c) : szI32 g n k = szI32 f n k := by
  rw [szI32_O, szI32_O]
  split
  · rfl
  · rename_i h0
    rcases hk with rfl | rfl | rfl | rfl
    · refine szO_len ?_; show some (plB _ _ _).length = some (plB _ _ _).length; rw [plB_length, plB_length]
    · obtain ⟨m, rfl⟩ : ∃ m, n = m + 1 := ⟨n - 1, by omega⟩
      have := (turn_bytes 32 5 c 4 f g m rfl h).1
      show ((packed (cbn 32 5 g (m + 1))).length : Int) = ((packed (cbn 32 5 f (m + 1))).length : Int)
      rw [this]
    · refine szO_len ?_; show some (rnB _ _ _ _ _).length = some (rnB _ _ _ _ _).length; rw [rnB_xor 32 c f g n 0 n (fun j hj => h j (by omega))]
    · refine szO_len ?_; exact dcO_len 32 f g n (by rw [uq_xor c f g n h]; simp)

end Go.Proofs.YtgjjkopmoobilaaGreatDoor

/- CodeEnds: kinds that there are not, too many values, squares, odd floats. -/
namespace Go.Proofs.YtgjjkopmoobilaaGreatDoor
open Go.RowKit
open M
set_option linter.unusedVariables false
set_option linter.unusedSimpArgs false

set_option maxRecDepth 100000 in
theorem best64_many (p : Option Addr) (n cap : Nat) (w : World) (hn : 4096 < n) :
    Calls Tryz.prog 27 #[.slice p n cap] w fun e w' => e = .returned (.tuple #[.int .i64 0, .slice none 0 0, .int .i64 81]) ∧ Below w.heap.size w w' := by
  go_enter Tryz.func27, Tryz.ntmps27
  go_wp2_with fail
  refine (cPack64_many 1 p n cap w (by omega) (by omega) hn).mono ?_
  rintro e w1 ⟨rfl, B1⟩
  have HB := hide B1
  clear B1
  go_wp2_with fail
  go_ret3
  exact ⟨rfl, HB.out⟩

/-- Squares. -/
def sqF (i : Nat) : Nat := i * i
theorem sqF_lt (i : Nat) (h : i < 4097) : sqF i < 18446744073709551616 := by
  have : i * i < 4097 * 4097 := Nat.mul_self_lt_mul_self h
  unfold sqF; omega
theorem uq_sq : ∀ n, (uq sqF n).length = n
  | 0 => rfl
  | n + 1 => by
    rw [uq, if_neg, List.length_append, uq_sq n]
    · rfl
    · intro h
      obtain ⟨i, hi, e⟩ := uq_of _ _ _ h
      have : i * i < n * n := Nat.mul_self_lt_mul_self hi
      unfold sqF at e; omega

theorem sq_dict (bs : List Nat) (h : PackIs64 4 256 sqF bs) : bs.length = 2305 := by
  obtain ⟨l, h1, h2⟩ := h.2.2 (by omega)
  have h1 : dcO 64 sqF 256 = some l := h1
  rw [dcO, if_pos (by rw [uq_sq]; omega)] at h1
  obtain rfl := Option.some.inj h1
  have hb : bitLen 255 = 8 := by decide +kernel
  rw [← h2, packed_length, dcB_len, uq_sq, hb]

/-- Odd floats. -/
def od8L : List Nat := [9223372036854775808, 9218868437227405312, 18442240474082181120, 9221120237041090561, 9218868437227405313, 1, 9223372036854775809, 9218868437227405311, 4831355200913801216, 4936209963552724370]
def od8F (i : Nat) : Nat := od8L.getD i 0
theorem od8_lt : ∀ i, i < 10 → od8F i < 18446744073709551616 := by
  have : ∀ i : Fin 10, od8F i.val < 18446744073709551616 := by decide +kernel
  exact fun i hi => this ⟨i, hi⟩

def od8Z : List Int := [9223372036854775808, 9218868437227405312, 18442240474082181120, 9221120237041090561, 9218868437227405313, 1, 9223372036854775809, 9218868437227405311, 4831355200913801216, 4936209963552724370]

theorem od8_row {w : World} {g : Nat} {t : TypeId} (h : w.heap[g]? = some (.cells (od8Z.map (Value.int .u64)).toArray t (0, 0))) : URow64 w (some ⟨g, 0, none⟩) 10 od8F := fun _ =>
  ⟨g, 0, rfl, fun i hi => by
    rw [cell_of_row _ _ _ _ _ _ h]
    rcases (show i = 0 ∨ i = 1 ∨ i = 2 ∨ i = 3 ∨ i = 4 ∨ i = 5 ∨ i = 6 ∨ i = 7 ∨ i = 8 ∨ i = 9 by omega) with rfl | rfl | rfl | rfl | rfl | rfl | rfl | rfl | rfl | rfl <;> rfl⟩

set_option maxRecDepth 100000 in
/-- The negative nought is nothing at any scale. -/
theorem wh_minus (p : Nat) (hp : p ≤ 22) : (F64.wh p 9223372036854775808).isSome = false := by
  have h : ∀ p : Fin 23, (F64.wh p.val 9223372036854775808).isSome = false := by decide +kernel
  exact h ⟨p, by omega⟩

theorem byte_five (c : Nat) (r : List Bool) : byteAt (bitsOf c 5 ++ r) 0 / 8 = c % 32 := by
  unfold byteAt
  rw [Nat.mul_zero, List.drop_zero, List.take_append, List.take_of_length_le (by simp), num_append, num_bitsOf]
  have hk : (r.take (8 - (bitsOf c 5).length)).length ≤ 3 := by simp; omega
  have hn := num_lt (r.take (8 - (bitsOf c 5).length))
  generalize r.take (8 - (bitsOf c 5).length) = q at *
  rw [List.length_append, bitsOf_length]
  generalize num q = m at *
  obtain h | h | h | h : q.length = 0 ∨ q.length = 1 ∨ q.length = 2 ∨ q.length = 3 := by omega
  all_goals rw [h] at hn ⊢; simp only [Nat.reducePow, Nat.reduceAdd, Nat.reduceSub] at hn ⊢; omega

theorem od8_none : 2 ≤ (packed (F64.dm 64 od8F 10)).length ∧ (packed (F64.dm 64 od8F 10)).getD 1 0 / 8 ≠ 0 := by
  obtain ⟨p, hp⟩ : ∃ p, (F64.bs od8F 10 F64.mostP).1 = p := ⟨_, rfl⟩
  have hp22 : p ≤ 22 := by rw [← hp]; exact F64.bs_le od8F 10 22
  have hc1 : 1 ≤ F64.cnt p od8F 0 10 := by
    rw [Dm.cnt, show od8F 0 = 9223372036854775808 from rfl, if_neg (by rw [wh_minus p hp22]; simp)]; omega
  have hc2 := F64.cnt_le p od8F 0 10
  unfold Dm.dm
  rw [hp]
  generalize F64.cnt p od8F 0 10 = c at *
  generalize F64.nt 64 p od8F 0 10 0 ++ F64.wb p od8F 0 10 0 = r
  have e : bitsOf p 5 ++ (varB c ++ r) = (bitsOf p 5 ++ bitsOf (c / 32) 3) ++ (bitsOf c 5 ++ r) := by
    unfold varB
    rw [groups_small _ _ (by omega), show (8 : Nat) = 3 + 5 from rfl, bitsOf_split c 3 5]
    simp
  have hl : 13 ≤ (bitsOf p 5 ++ (varB c ++ r)).length := by rw [e]; simp; omega
  refine ⟨by rw [packed_length]; omega, ?_⟩
  rw [packed_getD _ 1 (by omega), e, show (1 : Nat) = 1 + 0 from rfl, byteAt_drop _ _ 1 0 (by simp), byte_five]
  omega

theorem dm_short (f : Nat → Nat) (n : Nat) (hn : n ≤ 4096) : (packed (F64.dm 64 f n)).length ≤ 1000000000000 := by
  have := dm_len64 f n
  rw [packed_length]; omega

theorem getD_lt8 (bs : List Nat) (h : ∀ n ∈ bs, n < 256) (k : Nat) : bs.getD k 0 < 256 := by
  rw [List.getD_eq_getElem?_getD]
  by_cases hk : k < bs.length
  · rw [List.getElem?_eq_getElem hk]; exact h _ (List.getElem_mem hk)
  · rw [List.getElem?_eq_none (by omega)]; simp

/-- What Pack tells of the odd floats. -/
def OdEnd (w : World) (e : Ending) (w' : World) : Prop := ∃ (g : Nat) (bs : List Nat), e = .returned (.tuple #[.slice (some ⟨g, 0, none⟩) bs.length bs.length, .int .i64 0]) ∧
  w'.heap[g]? = some (.cells (bytesV bs).toArray 5 (0, 0)) ∧ Below w.heap.size w w' ∧ PackIs64 6 10 od8F bs ∧ 2 ≤ bs.length ∧ bs.getD 1 0 / 8 ≠ 0 ∧ bs.length ≤ 1000000000000 ∧ ∀ n ∈ bs, n < 256

theorem od_end {w : World} {e : Ending} {w' : World} {l : List Bool} (hl : F64.dm 64 od8F 10 = l) (h : RowEnd64 l w e w') : OdEnd w e w' := by
  obtain ⟨g, L, h1, h2, h3, h4, h5⟩ := h
  subst h1
  have hn := od8_none
  have hs := dm_short od8F 10 (by omega)
  rw [hl] at hn hs
  exact ⟨g, packed l, h3, h4, h5, ⟨od8_lt, fun h => by omega, fun _ => ⟨l, by rw [← hl]; rfl, rfl⟩⟩, hn.1, hn.2, hs, packed_lt l⟩

theorem od8_pack (p : Option Addr) (cap : Nat) (w : World) (h : URow64 w p 10 od8F) (hcap : 10 ≤ cap) (hT : Tab64 w) : Calls Tryz.prog 16 #[.int .i64 6, .slice p 10 cap] w (OdEnd w) := by
  obtain ⟨l, hl⟩ : ∃ l, F64.dm 64 od8F 10 = l := ⟨_, rfl⟩
  refine (cPack64_some 6 p 10 cap od8F w (by omega) (by omega) h (by omega) (by omega) hcap od8_lt hT).mono ?_
  intro e w' hE
  have e6 : codeO64 6 od8F 10 = some l := by rw [← hl]; rfl
  rw [e6] at hE
  exact od_end hl hE

set_option maxRecDepth 100000 in
theorem none8_false (g : Nat) (bs : List Nat) (w : World) (h : w.heap[g]? = some (.cells (bytesV bs).toArray 5 (0, 0))) (hl : 2 ≤ bs.length) (hl2 : bs.length ≤ 1000000000000) (hb : bs.getD 1 0 / 8 ≠ 0) (hlt : bs.getD 1 0 < 256) :
    Calls Tryz.prog 25 #[.slice (some ⟨g, 0, none⟩) bs.length bs.length] w fun e w' => e = .returned (.bool false) ∧ w' = w := by
  have hc : ∀ j, j < bs.length → w.cell? ⟨g, j, none⟩ = some (.int .u8 ((bs.getD j 0 : Nat) : Int)) := fun j hj => by rw [cell_of_row _ _ _ _ _ _ h]; simp [bytesV, List.getD, hj]
  have c0 := hc 0 (by omega)
  have c1 := hc 1 (by omega)
  generalize bs.getD 0 0 = x at c0
  generalize bs.getD 1 0 = y at c1 hb hlt
  generalize bs.length = L at *
  clear h hc
  have e1 : ((y : Int) / 8 == 0) = false := by rw [beq_eq_false_iff_ne]; omega
  have e2 : ((y / 8 : Nat) : Int) ≠ 0 := by omega
  by_cases hx : x % 8 = 0
  · have f1 : ((x : Int).tmod 8 == 0) = true := by rw [beq_iff_eq, Int.tmod_eq_emod_of_nonneg (by omega)]; omega
    go_enter Tryz.func25, Tryz.ntmps25
    go_wp2_with fail
    go_ret
    exact ⟨by rw [← e1]; rfl, rfl⟩
  · have f1 : ((x : Int).tmod 8 == 0) = false := by rw [beq_eq_false_iff_ne, Int.tmod_eq_emod_of_nonneg (by omega)]; omega
    go_enter Tryz.func25, Tryz.ntmps25
    go_wp2_with fail
    go_ret
    exact ⟨rfl, rfl⟩

end Go.Proofs.YtgjjkopmoobilaaGreatDoor

/- A new cell. -/
namespace Go.Proofs.YtgjjkopmoobilaaGreatDoor
open Go.RowKit
set_option linter.unusedVariables false

theorem cell_new8 (w : World) (v : Value) (t : TypeId) (j : Nat) (u : Value) (h : [v][j]? = some u) : (w.alloc (.cells #[v] t)).cell? ((⟨w.heap.size, 0, none⟩ : Addr).add j) = some u := by
  have hn := heap_alloc_new w (.cells #[v] t)
  rw [Addr.add_mid, Nat.zero_add, cell_of_row _ _ _ _ _ _ hn]
  cases j with
  | zero => simpa using h
  | succ j => simp at h

end Go.Proofs.YtgjjkopmoobilaaGreatDoor

/- The law's own functions: Widened (of fathomlaw7), wideOf, alike (of fathomlaw8). As P2A. -/
namespace Go.Proofs.YtgjjkopmoobilaaGreatDoor
open Go.RowKit
open M
set_option linter.unusedVariables false

set_option maxRecDepth 100000 in
set_option maxHeartbeats 1000000 in
/-- uint32s as uint64s. -/
theorem widened8_any (p : Option Addr) (n cap : Nat) (f : Nat → Nat) (w : World) (h : URow32 w p n f) (hf : ∀ i, i < n → f i < 4294967296) (hn : n ≤ 1000000) :
    Calls Tryz.prog 38 #[.slice p n cap] w fun e w' => ∃ ad cp, e = .returned (.slice ad n cp) ∧ n ≤ cp ∧ URow64 w' ad n f ∧ Below w.heap.size w w' := by
  have H := hide h
  have HF := hide hf
  clear h hf
  obtain ⟨i5, hi5⟩ := info64
  have Hi := hide hi5
  clear hi5
  go_enter Tryz.func38, Tryz.ntmps38
  go_wp2_with fail
  go_loopw [3, 4] (fun t3 t4 wr => ∃ i : Nat, t4 = .int .i64 (i : Int) ∧ Hid (i ≤ n) ∧ Hid (USt64 w.heap.size w f i t3 wr)) (fun _ t4 _ => n - (intOf t4).toNat)
  case atStart => exact ⟨0, rfl, Nat.zero_le _, USt64.nil _ _⟩
  case round =>
    obtain ⟨i, rfl, hI, HS⟩ := hrel
    by_cases hlt : i < n
    · obtain ⟨b, o, rfl, hc⟩ := H.out (by omega)
      have Hnext := hide (fun (w4 : World) (g4 cap4 : Nat) => USt64.next (w4 := w4) (g := g4) (cap := cap4) HS.out rfl)
      obtain ⟨x, hx⟩ : ∃ x, f i = x := ⟨_, rfl⟩
      have hbw : b < w.heap.size := block_lt_of_cell (hc i hlt)
      have c1 : wr.cell? ⟨b, o + i, none⟩ = some (.int .u32 (x : Int)) := by rw [HS.out.2.1.cell (p := ⟨b, o + i, none⟩) hbw, ← hx]; exact hc i hlt
      have hxl : x < 4294967296 := by rw [← hx]; exact HF.out i hlt
      have r1 : IntKind.u64.wrap (x : Int) = (x : Int) := by rw [IntKind.wrap_u64]; omega
      rw [hx] at Hnext
      have HX := hide hxl
      clear hc hx hxl
      go_wp2_with (at_builtin; refine wpList_append_lies _ rfl _ _ _ rfl w.heap.size 39 i5 (.int .u64 0) 1 8 Tryz.underlying28 Hi.out.1 Hi.out.2.1 Hi.out.2.2.1 Hi.out.2.2.2 rfl (by decide) _ i (valsV64 i f) rfl (HS.out.1.alloc _) ⟨wr.heap.size, 0, none⟩ 1 1 [.int .u64 (x : Int)] rfl rfl ?d2 ?d3 (by decide) ?d4 ?d5 ?d7 _ rfl ?d6)
      case d2 => intro j u hj; exact cell_new8 wr _ 39 j u hj
      case d3 => intro u hu; simp at hu; subst hu; rfl
      case d4 => unfold maxLen; omega
      case d5 => omega
      case d7 => have := HS.out.2.1.size; simp; omega
      case d6 =>
        intro g4 cap4 w4 ho4 hg4 hat4 hlt4
        have H4 : Hid (USt64 w.heap.size w f (i + 1) (.slice (some ⟨g4, 0, none⟩) (i + 1) cap4) w4) := Hnext.out w4 g4 cap4 ho4 hg4
        clear ho4 hg4 hat4 hlt4 HS Hnext
        go_wp2_with fail
        go_roundw
        case rel => exact ⟨i + 1, by simp, hlt, H4.out⟩
        case measure => simp [intOf]; omega
    · obtain rfl : i = n := by have := hI.out; omega
      obtain ⟨ad, cp, rfl, hcp, hrow⟩ := HS.out.row
      have HR := hide hrow
      have HB := hide HS.out.2.1
      clear hrow HS
      go_wp2_with fail
      go_ret
      exact ⟨ad, cp, rfl, hcp, HR.out, HB.out⟩

set_option maxRecDepth 100000 in
set_option maxHeartbeats 1000000 in
/-- uint32s as uint64s. -/
theorem wideOf8_any (p : Option Addr) (n cap : Nat) (f : Nat → Nat) (w : World) (h : URow32 w p n f) (hf : ∀ i, i < n → f i < 4294967296) (hn : n ≤ 1000000) :
    Calls Tryz.prog 24 #[.slice p n cap] w fun e w' => ∃ ad cp, e = .returned (.slice ad n cp) ∧ n ≤ cp ∧ URow64 w' ad n f ∧ Below w.heap.size w w' := by
  have H := hide h
  have HF := hide hf
  clear h hf
  obtain ⟨i5, hi5⟩ := info64
  have Hi := hide hi5
  clear hi5
  go_enter Tryz.func24, Tryz.ntmps24
  go_wp2_with fail
  go_loopw [3, 4] (fun t3 t4 wr => ∃ i : Nat, t4 = .int .i64 (i : Int) ∧ Hid (i ≤ n) ∧ Hid (USt64 w.heap.size w f i t3 wr)) (fun _ t4 _ => n - (intOf t4).toNat)
  case atStart => exact ⟨0, rfl, Nat.zero_le _, USt64.nil _ _⟩
  case round =>
    obtain ⟨i, rfl, hI, HS⟩ := hrel
    by_cases hlt : i < n
    · obtain ⟨b, o, rfl, hc⟩ := H.out (by omega)
      have Hnext := hide (fun (w4 : World) (g4 cap4 : Nat) => USt64.next (w4 := w4) (g := g4) (cap := cap4) HS.out rfl)
      obtain ⟨x, hx⟩ : ∃ x, f i = x := ⟨_, rfl⟩
      have hbw : b < w.heap.size := block_lt_of_cell (hc i hlt)
      have c1 : wr.cell? ⟨b, o + i, none⟩ = some (.int .u32 (x : Int)) := by rw [HS.out.2.1.cell (p := ⟨b, o + i, none⟩) hbw, ← hx]; exact hc i hlt
      have hxl : x < 4294967296 := by rw [← hx]; exact HF.out i hlt
      have r1 : IntKind.u64.wrap (x : Int) = (x : Int) := by rw [IntKind.wrap_u64]; omega
      rw [hx] at Hnext
      have HX := hide hxl
      clear hc hx hxl
      go_wp2_with (at_builtin; refine wpList_append_lies _ rfl _ _ _ rfl w.heap.size 39 i5 (.int .u64 0) 1 8 Tryz.underlying28 Hi.out.1 Hi.out.2.1 Hi.out.2.2.1 Hi.out.2.2.2 rfl (by decide) _ i (valsV64 i f) rfl (HS.out.1.alloc _) ⟨wr.heap.size, 0, none⟩ 1 1 [.int .u64 (x : Int)] rfl rfl ?d2 ?d3 (by decide) ?d4 ?d5 ?d7 _ rfl ?d6)
      case d2 => intro j u hj; exact cell_new8 wr _ 39 j u hj
      case d3 => intro u hu; simp at hu; subst hu; rfl
      case d4 => unfold maxLen; omega
      case d5 => omega
      case d7 => have := HS.out.2.1.size; simp; omega
      case d6 =>
        intro g4 cap4 w4 ho4 hg4 hat4 hlt4
        have H4 : Hid (USt64 w.heap.size w f (i + 1) (.slice (some ⟨g4, 0, none⟩) (i + 1) cap4) w4) := Hnext.out w4 g4 cap4 ho4 hg4
        clear ho4 hg4 hat4 hlt4 HS Hnext
        go_wp2_with fail
        go_roundw
        case rel => exact ⟨i + 1, by simp, hlt, H4.out⟩
        case measure => simp [intOf]; omega
    · obtain rfl : i = n := by have := hI.out; omega
      obtain ⟨ad, cp, rfl, hcp, hrow⟩ := HS.out.row
      have HR := hide hrow
      have HB := hide HS.out.2.1
      clear hrow HS
      go_wp2_with fail
      go_ret
      exact ⟨ad, cp, rfl, hcp, HR.out, HB.out⟩

/-- A Bool that says whether P; new memory may have been made. -/
def SaysB8 (P : Prop) (w : World) (e : Ending) (w' : World) : Prop := ∃ v : Bool, e = .returned (.bool v) ∧ (v = true ↔ P) ∧ Below w.heap.size w w'

theorem alike8_any (p q : Option Addr) (n n' cap cap' : Nat) (f g : Nat → Nat) (w : World) (h : URow32 w p n f) (hf : ∀ i, i < n → f i < 4294967296) (hn : n ≤ 1000000) (h' : URow64 w q n' g) (hn' : n' ≤ 281474976710656) :
    Calls Tryz.prog 23 #[.slice p n cap, .slice q n' cap'] w (SaysB8 (n = n' ∧ ∀ i, i < n → f i = g i) w) := by
  have H' := hide h'
  have HW := hide (widened8_any p n cap f w h hf hn)
  clear h h' hf
  go_enter Tryz.func23, Tryz.ntmps23
  go_wp2_with fail
  refine HW.out.mono ?_
  rintro e w1 ⟨ad, cp, rfl, hcp, R1, B1⟩
  have HR1 := hide R1
  have HB1 := hide B1
  clear R1 B1
  go_wp2_with fail
  refine (same8_any ad q n n' cp cap' f g w1 HR1.out (H'.out.below HB1.out) (by omega) hn').mono ?_
  rintro e w2 ⟨v, rfl, hv, m, hw2⟩
  have HV := hide hv
  have HB2 : Hid (Below w.heap.size w w2) := by rw [hw2]; exact below_drewN HB1.out m
  clear hv hw2
  go_wp2_with fail
  go_ret
  exact ⟨v, rfl, HV.out, HB2.out⟩

end Go.Proofs.YtgjjkopmoobilaaGreatDoor

namespace Go.Proofs.YtgjjkopmoobilaaGreatDoor
open Go.RowKit
open M
set_option linter.unusedVariables false
set_option linter.unusedSimpArgs false

set_option maxRecDepth 100000 in
set_option maxHeartbeats 8000000 in
theorem ends8_any (w : World) (hT : Tab64 w) : Calls Tryz.prog 6 #[] w fun e w' => e = .returned (.bool true) ∧ Below w.heap.size w w' := by
  have HT := hide hT
  clear hT
  go_enter Tryz.func6, Tryz.ntmps6
  go_upto_block 0 with fail
  go_cut [1] from 2 (fun t1 wc => Hid (Below w.heap.size w wc))
  case first =>
    as_aux_lemma =>
      go_wp2_with fail
      go_loopw [1] (fun t1 wr => ∃ k : Int, t1 = .int .i64 k ∧ Hid (-1 ≤ k ∧ k ≤ 9 ∧ Below w.heap.size w wr)) (fun t1 _ => (9 - intOf t1).toNat)
      case atStart => exact ⟨-1, rfl, by omega, by omega, Below.refl _ _⟩
      case round =>
        obtain ⟨k, rfl, hI⟩ := hrel
        have hlo := hI.out.1
        have hhi := hI.out.2.1
        by_cases hle : k ≤ 8
        · by_cases hk1 : k < 1
          · as_aux_lemma =>
              go_wp2_with fail
              have HBa : Hid (Below w.heap.size w (wr.alloc (.cells #[] 39))) := hI.out.2.2.alloc hI.out.2.2.size _
              generalize wr.alloc (.cells #[] 39) = wa at *
              refine (cPack64_none k _ wa (Or.inl hk1)).mono ?_
              rintro e wb ⟨rfl, Bb⟩
              have HBb : Hid (Below w.heap.size w wb) := HBa.out.trans (Bb.mono HBa.out.size)
              clear Bb
              go_wp2_with fail
              refine (cUnpack32_none k _ _ wb (Or.inl hk1)).mono ?_
              rintro e wc ⟨rfl, Bc⟩
              have HBc : Hid (Below w.heap.size w wc) := HBb.out.trans (Bc.mono HBb.out.size)
              clear Bc
              go_wp2_with fail
              have HBd : Hid (Below w.heap.size w (wc.alloc (.cells #[.int .u8 0] 5))) := HBc.out.alloc HBc.out.size _
              have HY : Hid (IsBy (wc.alloc (.cells #[.int .u8 0] 5)) (.slice (some ⟨wc.heap.size, 0, none⟩) 1 1) [0]) := .inl (isBytes_row (bs := [0]) (heap_alloc_new _ _))
              generalize wc.alloc (.cells #[.int .u8 0] 5) = wd at *
              refine (cUnpack64_none k _ _ wd (Or.inl hk1)).mono ?_
              rintro e we ⟨rfl, Be⟩
              have HBe : Hid (Below w.heap.size w we) := HBd.out.trans (Be.mono HBd.out.size)
              clear Be
              go_wp2_with fail
              refine (num8_any _ _).mono ?_
              rintro e wn ⟨rfl, hwn⟩
              have hwn := hwn.symm
              subst hwn
              go_wp2_with fail
              refine (num8_any _ _).mono ?_
              rintro e wn ⟨rfl, hwn⟩
              have hwn := hwn.symm
              subst hwn
              go_wp2_with fail
              go_roundw
              case rel => exact ⟨k + 1, rfl, by omega, by omega, HBe.out⟩
              case measure => simp [intOf]; omega
          · by_cases hk6 : 6 < k
            · as_aux_lemma =>
                go_wp2_with fail
                have HBa : Hid (Below w.heap.size w (wr.alloc (.cells #[] 39))) := hI.out.2.2.alloc hI.out.2.2.size _
                generalize wr.alloc (.cells #[] 39) = wa at *
                refine (cPack64_none k _ wa (Or.inr hk6)).mono ?_
                rintro e wb ⟨rfl, Bb⟩
                have HBb : Hid (Below w.heap.size w wb) := HBa.out.trans (Bb.mono HBa.out.size)
                clear Bb
                go_wp2_with fail
                refine (cUnpack32_none k _ _ wb (Or.inr hk6)).mono ?_
                rintro e wc ⟨rfl, Bc⟩
                have HBc : Hid (Below w.heap.size w wc) := HBb.out.trans (Bc.mono HBb.out.size)
                clear Bc
                go_wp2_with fail
                have HBd : Hid (Below w.heap.size w (wc.alloc (.cells #[.int .u8 0] 5))) := HBc.out.alloc HBc.out.size _
                have HY : Hid (IsBy (wc.alloc (.cells #[.int .u8 0] 5)) (.slice (some ⟨wc.heap.size, 0, none⟩) 1 1) [0]) := .inl (isBytes_row (bs := [0]) (heap_alloc_new _ _))
                generalize wc.alloc (.cells #[.int .u8 0] 5) = wd at *
                refine (cUnpack64_none k _ _ wd (Or.inr hk6)).mono ?_
                rintro e we ⟨rfl, Be⟩
                have HBe : Hid (Below w.heap.size w we) := HBd.out.trans (Be.mono HBd.out.size)
                clear Be
                go_wp2_with fail
                refine (num8_any _ _).mono ?_
                rintro e wn ⟨rfl, hwn⟩
                have hwn := hwn.symm
                subst hwn
                go_wp2_with fail
                refine (num8_any _ _).mono ?_
                rintro e wn ⟨rfl, hwn⟩
                have hwn := hwn.symm
                subst hwn
                go_wp2_with fail
                go_roundw
                case rel => exact ⟨k + 1, rfl, by omega, by omega, HBe.out⟩
                case measure => simp [intOf]; omega
            · as_aux_lemma =>
                obtain ⟨kk, rfl⟩ : ∃ kk : Nat, k = (kk : Int) := ⟨k.toNat, by omega⟩
                have hkk : Hid (1 ≤ kk ∧ kk ≤ 6) := ⟨by omega, by omega⟩
                go_wp2_with fail
                have HBa : Hid (Below w.heap.size w (wr.alloc (.cells #[] 39))) := hI.out.2.2.alloc hI.out.2.2.size _
                generalize wr.alloc (.cells #[] 39) = wa at *
                refine (cPack64_empty kk _ _ wa hkk.out.1 hkk.out.2).mono ?_
                rintro e wb ⟨rfl, Bb⟩
                have HBb : Hid (Below w.heap.size w wb) := HBa.out.trans (Bb.mono HBa.out.size)
                clear Bb
                go_wp2_with fail
                refine (cUnpack32_any kk (.slice none 0 0) [] 0 wb hkk.out.1 hkk.out.2 (.inl (.inl ⟨rfl, rfl⟩)) (by simp) (by simp) (by omega) (HT.out.below HBb.out)).mono ?_
                rintro e wc (⟨-, -, hno⟩ | ⟨u, f, rfl, hU, -, -⟩)
                · exact (hno (fun _ => 0) ⟨fun i hi => by omega, fun _ => rfl, fun h => by omega⟩).elim
                obtain ⟨p5, cap5, rfl, -, -⟩ := hU.row
                have Bc := hU.2.1
                have HBc : Hid (Below w.heap.size w wc) := HBb.out.trans (Bc.mono HBb.out.size)
                clear hU
                clear Bc
                go_wp2_with fail
                have HBd : Hid (Below w.heap.size w (wc.alloc (.cells #[.int .u8 0] 5))) := HBc.out.alloc HBc.out.size _
                have HY : Hid (IsBy (wc.alloc (.cells #[.int .u8 0] 5)) (.slice (some ⟨wc.heap.size, 0, none⟩) 1 1) [0]) := .inl (isBytes_row (bs := [0]) (heap_alloc_new _ _))
                generalize wc.alloc (.cells #[.int .u8 0] 5) = wd at *
                refine (cUnpack64_any kk _ [0] 0 wd hkk.out.1 hkk.out.2 HY.out (by simp) (by simp) (by omega) (HT.out.below HBd.out)).mono ?_
                rintro e we (⟨rfl, Be, _⟩ | ⟨u, f, _, _, hP, _⟩)
                rotate_left
                · exact absurd (hP.2.1 rfl) (by simp)
                have HBe : Hid (Below w.heap.size w we) := HBd.out.trans (Be.mono HBd.out.size)
                clear Be
                go_wp2_with fail
                refine (num8_any _ _).mono ?_
                rintro e wn ⟨rfl, hwn⟩
                have hwn := hwn.symm
                subst hwn
                go_wp2_with fail
                refine (num8_any _ _).mono ?_
                rintro e wn ⟨rfl, hwn⟩
                have hwn := hwn.symm
                subst hwn
                go_wp2_with fail
                refine (num8_any _ _).mono ?_
                rintro e wn ⟨rfl, hwn⟩
                have hwn := hwn.symm
                subst hwn
                go_wp2_with fail
                refine (num8_any _ _).mono ?_
                rintro e wn ⟨rfl, hwn⟩
                have hwn := hwn.symm
                subst hwn
                go_wp2_with fail
                refine (num8_any _ _).mono ?_
                rintro e wn ⟨rfl, hwn⟩
                have hwn := hwn.symm
                subst hwn
                go_wp2_with fail
                go_roundw
                case rel => exact ⟨(kk : Int) + 1, rfl, by omega, by omega, HBe.out⟩
                case measure => simp [intOf]; omega
        · go_wp2_with fail
          go_meet
          case rel => exact hI.out.2.2
  case rest =>
    obtain ⟨w1, hw1⟩ : ∃ w1, w1 = wc := ⟨_, rfl⟩
    rw [← hw1] at hcut ⊢
    clear hw1
    have HB1 := hcut
    clear hcut
    go_upto_block 2 with fail
    go_cut [9] from 10 (fun t9 wc => Hid (USt64 w1.heap.size w1 sqF 4097 t9 wc))
    case first =>
      as_aux_lemma =>
        obtain ⟨i5, hi5⟩ := info64
        have Hi := hide hi5
        clear hi5
        go_wp2_with fail
        go_loopw [9, 10] (fun t9 t10 wr => ∃ (v : Value) (i : Nat), v = t9 ∧ t10 = .int .i64 (i : Int) ∧ Hid (i ≤ 4097) ∧ Hid (USt64 w1.heap.size w1 sqF i v wr)) (fun _ t10 _ => 4097 - (intOf t10).toNat)
        case atStart => exact ⟨_, 0, rfl, rfl, Nat.zero_le _, USt64.nil _ _⟩
        case round =>
          obtain ⟨v, i, rfl, rfl, hI, HS⟩ := hrel
          by_cases hlt : i < 4097
          · have Hnext := hide (fun (w4 : World) (g4 cap4 : Nat) => USt64.next (w4 := w4) (g := g4) (cap := cap4) HS.out rfl)
            obtain ⟨x, hx⟩ : ∃ x, sqF i = x := ⟨_, rfl⟩
            have hxl : x < 18446744073709551616 := by rw [← hx]; exact sqF_lt i hlt
            have r1 : IntKind.u64.wrap (i : Int) = (i : Int) := by rw [IntKind.wrap_u64]; omega
            have r2 : IntKind.u64.wrap ((i : Int) * (i : Int)) = (x : Int) := by
              rw [IntKind.wrap_u64, show (i : Int) * (i : Int) = (x : Int) from by rw [← hx]; simp [sqF]]; omega
            rw [hx] at Hnext
            have HX := hide hxl
            clear hx hxl
            go_wp2_with (at_builtin; refine wpList_append_lies _ rfl _ _ _ rfl w1.heap.size 39 i5 (.int .u64 0) 1 8 Tryz.underlying28 Hi.out.1 Hi.out.2.1 Hi.out.2.2.1 Hi.out.2.2.2 rfl (by decide) _ i (valsV64 i sqF) rfl (HS.out.1.alloc _) ⟨wr.heap.size, 0, none⟩ 1 1 [.int .u64 (x : Int)] rfl rfl ?d2 ?d3 (by decide) ?d4 ?d5 ?d7 _ rfl ?d6)
            case d2 => intro j u hj; exact cell_new8 wr _ 39 j u hj
            case d3 => intro u hu; simp at hu; subst hu; rfl
            case d4 => unfold maxLen; omega
            case d5 => omega
            case d7 => have := HS.out.2.1.size; simp; omega
            case d6 =>
              intro g4 cap4 w4 ho4 hg4 hat4 hlt4
              have H4 : Hid (USt64 w1.heap.size w1 sqF (i + 1) (.slice (some ⟨g4, 0, none⟩) (i + 1) cap4) w4) := Hnext.out w4 g4 cap4 ho4 hg4
              clear ho4 hg4 hat4 hlt4 HS Hnext
              go_wp2_with fail
              go_roundw
              case rel => exact ⟨_, i + 1, rfl, by simp, hlt, H4.out⟩
              case measure => simp [intOf]; omega
          · obtain rfl : i = 4097 := by have := hI.out; omega
            go_wp2_with fail
            go_meet
            case rel => exact HS.out
    case rest =>
      obtain ⟨w2, hw2⟩ : ∃ w2, w2 = wc := ⟨_, rfl⟩
      rw [← hw2] at hcut ⊢
      clear hw2
      obtain ⟨ad, cp, rfl, hcp, R⟩ := hcut.out.row
      have HB2 : Hid (Below w.heap.size w w2) := HB1.out.trans (hcut.out.2.1.mono HB1.out.size)
      obtain ⟨gb, go, rfl, hc⟩ := R (by omega)
      have HRW : Hid (∀ wx, Below w2.heap.size w2 wx → URow64 wx (some ⟨gb, go, none⟩) 4097 sqF) := fun wx hx => R.below hx
      have HF : Hid (∀ i, i < 4097 → sqF i < 18446744073709551616) := sqF_lt
      clear hcut R hc HB1
      have hBw2 : Hid (Below w2.heap.size w2 w2) := Below.refl _ _
      have hcp' : 4097 ≤ cp := hcp
      as_aux_lemma =>
        go_wp2_with fail
        refine (cAgain64 4 _ 256 cp sqF w2 (by omega) (by omega) ((HRW.out w2 hBw2.out).take (by omega)) (by omega) (by omega) (fun i hi => HF.out i (by omega)) (HT.out.below (HB2.out.trans (hBw2.out.mono HB2.out.size)))).mono ?_
        rintro e wa (⟨pu, cu, bs, rfl, hby, h256, Bwa, hP, -⟩ | ⟨-, -, hno⟩)
        rotate_left
        · obtain ⟨bs, hbs⟩ := packIs_takes64 4 256 sqF (by omega) (by omega) (fun i hi => HF.out i (by omega)) (by rw [uq_sq]; omega)
          exact (hno bs hbs).elim
        have hBwa : Hid (Below w2.heap.size w2 wa) := hBw2.out.trans (Bwa.mono hBw2.out.size)
        have hlen : bs.length = 2305 := sq_dict bs hP
        have HP := hide hP
        have HY := hide (fun wx (hx : Below wa.heap.size wa wx) => isBy_below hby hx)
        have H256 := hide h256
        rw [hlen] at HY ⊢
        have HLN := hide hlen
        clear Bwa hP hby h256 hlen
        go_wp2_with fail
        refine (cAgain64 4 _ 257 cp sqF wa (by omega) (by omega) ((HRW.out wa hBwa.out).take (by omega)) (by omega) (by omega) (fun i hi => HF.out i (by omega)) (HT.out.below (HB2.out.trans (hBwa.out.mono HB2.out.size)))).mono ?_
        rintro e wb (⟨_, _, bs2, -, -, -, -, hP2, -⟩ | ⟨rfl, Bwb, hno⟩)
        · exact (packIs_none64 257 sqF (by rw [uq_sq]; omega) bs2 hP2).elim
        have hBwb : Hid (Below w2.heap.size w2 wb) := hBwa.out.trans (Bwb.mono hBwa.out.size)
        have bab := hide Bwb
        clear Bwb hno
        go_wp2_with fail
        refine (cUnpack64_any 4 _ bs 256 wb (by omega) (by omega) (HY.out wb bab.out) H256.out (by rw [HLN.out]; omega) (by omega) (HT.out.below (HB2.out.trans (hBwb.out.mono HB2.out.size)))).mono ?_
        rintro e wc (⟨-, -, hno⟩ | ⟨u, f5, rfl, hU, -, hEq⟩)
        · exact (hno sqF HP.out).elim
        obtain ⟨p5, cap5, rfl, hcap5, hrow5⟩ := hU.row
        have Bwc := hU.2.1
        have hBwc : Hid (Below w2.heap.size w2 wc) := hBwb.out.trans (Bwc.mono hBwb.out.size)
        have HE5 := hide (hEq sqF HP.out)
        have HR5 := hide (fun wx (hx : Below wc.heap.size wc wx) => hrow5.below hx)
        clear hU hEq hrow5 Bwc HY H256 HP HLN bab
        go_wp2_with fail
        refine (sizes64_any _ 257 cp sqF wc ((HRW.out wc hBwc.out).take (by omega)) (by omega) (by omega) (fun i hi => HF.out i (by omega)) (HT.out.below (HB2.out.trans (hBwc.out.mono HB2.out.size)))).mono ?_
        rintro e wd ⟨v, rfl, hown, Bwd⟩
        obtain ⟨gs, cs, rfl, hcs, hs⟩ := sizes_cap hown
        have hBwd : Hid (Below w2.heap.size w2 wd) := hBwc.out.trans (Bwd.mono hBwc.out.size)
        have hs3 : wd.cell? ⟨gs, 3, none⟩ = some (.int .i64 (-1)) := by
          have := hs 3 (.int .i64 (szI64 sqF 257 4)) (by omega) (by simp [szV64])
          rw [szI64_no (fun i hi => HF.out i (by omega)) (fun bs hP => packIs_none64 257 sqF (by rw [uq_sq]; omega) bs hP)] at this
          exact this
        have HR5d : Hid (URow64 wd p5 256 f5) := HR5.out wd Bwd
        clear hown hs Bwd HR5
        go_wp2_with fail
        refine (num8_any _ _).mono ?_
        rintro e wn ⟨rfl, hwn⟩
        have hwn := hwn.symm
        subst hwn
        go_wp2_with fail
        refine (num8_any _ _).mono ?_
        rintro e wn ⟨rfl, hwn⟩
        have hwn := hwn.symm
        subst hwn
        go_wp2_with fail
        refine (num8_any _ _).mono ?_
        rintro e wn ⟨rfl, hwn⟩
        have hwn := hwn.symm
        subst hwn
        go_wp2_with fail
        refine (same8_any p5 _ 256 256 cap5 cp f5 sqF wd HR5d.out ((HRW.out wd hBwd.out).take (by omega)) (by omega) (by omega)).mono ?_
        rintro e we ⟨vv, rfl, hvv, m, hwe⟩
        obtain rfl : vv = true := hvv.2 ⟨rfl, HE5.out⟩
        have hs3 : we.cell? ⟨gs, 3, none⟩ = some (.int .i64 (-1)) := by rw [hwe]; exact hs3
        have hBwe : Hid (Below w2.heap.size w2 we) := by rw [hwe]; exact below_drewN hBwd.out m
        clear hwe hvv HR5d HE5
        go_wp2_with fail
        refine (num8_any _ _).mono ?_
        rintro e wn ⟨rfl, hwn⟩
        have hwn := hwn.symm
        subst hwn
        go_upto_block 4 with fail
        clear hs3
        go_cut [19] from 20 (fun t19 wc => Hid (Below w2.heap.size w2 wc))
        case first =>
          as_aux_lemma =>
            go_wp2_with fail
            go_loopw [19] (fun t19 wr => ∃ q : Nat, t19 = .int .i64 ((q : Int) + 1) ∧ Hid (q ≤ 5 ∧ Below w2.heap.size w2 wr)) (fun t19 _ => 6 - (intOf t19).toNat)
            case atStart => exact ⟨0, rfl, by omega, hBwe.out⟩
            case round =>
              obtain ⟨q, rfl, hI⟩ := hrel
              have hBwr : Hid (Below w2.heap.size w2 wr) := hI.out.2
              by_cases hlt : q + 1 ≤ 5
              · have hle : (q : Int) + 1 ≤ 5 := by omega
                have HQ := hide (cAgain64 (q + 1) (some ⟨gb, go, none⟩) 4096 cp sqF wr (by omega) (by omega) ((HRW.out wr hBwr.out).take (by omega)) (by omega) (by omega) (fun i hi => HF.out i (by omega)) (HT.out.below (HB2.out.trans (hBwr.out.mono HB2.out.size))))
                rw [show (((q + 1 : Nat)) : Int) = (q : Int) + 1 from by simp] at HQ
                go_wp2_with fail
                refine HQ.out.mono ?_
                intro e w3 hE
                have HQ2 := hide (fun wx => cPack64_many (q + 1) (some ⟨gb, go, none⟩) 4097 cp wx (by omega) (by omega) (by omega))
                have HQ3 := hide (fun v wx => cUnpack64_count (q + 1) 4097 v wx (by omega) (by omega) (by omega))
                rw [show (((q + 1 : Nat)) : Int) = (q : Int) + 1 from by simp] at HQ2 HQ3
                clear HQ
                rcases hE with ⟨pu, cu, bs, rfl, -, -, Bw3, hP, -⟩ | ⟨rfl, Bw3, hno⟩
                · have hq4 : ((q : Int) + 1 != 4) = true := by
                    rw [bne_iff_ne]; intro h
                    have h4 : q + 1 = 4 := by omega
                    rw [h4] at hP
                    exact packIs_none64 4096 sqF (by rw [uq_sq]; omega) bs hP
                  have hBw3 : Hid (Below w2.heap.size w2 w3) := hBwr.out.trans (Bw3.mono hBwr.out.size)
                  clear Bw3
                  go_wp2_with fail
                  refine (HQ2.out w3).mono ?_
                  rintro e w4 ⟨rfl, Bw4⟩
                  have hBw4 : Hid (Below w2.heap.size w2 w4) := hBw3.out.trans (Bw4.mono hBw3.out.size)
                  clear Bw4
                  go_wp2_with fail
                  refine (HQ3.out _ w4).mono ?_
                  rintro e w5 ⟨rfl, Bw5⟩
                  have hBw5 : Hid (Below w2.heap.size w2 w5) := hBw4.out.trans (Bw5.mono hBw4.out.size)
                  clear Bw5 HQ2 HQ3
                  go_wp2_with fail
                  refine (num8_any _ _).mono ?_
                  rintro e wn ⟨rfl, hwn⟩
                  have hwn := hwn.symm
                  subst hwn
                  go_wp2_with fail
                  refine (num8_any _ _).mono ?_
                  rintro e wn ⟨rfl, hwn⟩
                  have hwn := hwn.symm
                  subst hwn
                  go_wp2_with fail
                  refine (num8_any _ _).mono ?_
                  rintro e wn ⟨rfl, hwn⟩
                  have hwn := hwn.symm
                  subst hwn
                  go_wp2_with fail
                  go_roundw
                  case rel => exact ⟨q + 1, by simp, hlt, hBw5.out⟩
                  case measure => simp [intOf]; omega
                · have hq4 : ((q : Int) + 1 != 4) = false := by
                    rw [bne_eq_false_iff_eq]
                    by_cases h4 : q + 1 = 4
                    · omega
                    · obtain ⟨bs, hbs⟩ := packIs_takes64 (q + 1) 4096 sqF (by omega) (by omega) (fun i hi => HF.out i (by omega)) (fun h => h4 h.1)
                      exact (hno bs hbs).elim
                  have hBw3 : Hid (Below w2.heap.size w2 w3) := hBwr.out.trans (Bw3.mono hBwr.out.size)
                  clear Bw3
                  go_wp2_with fail
                  refine (HQ2.out w3).mono ?_
                  rintro e w4 ⟨rfl, Bw4⟩
                  have hBw4 : Hid (Below w2.heap.size w2 w4) := hBw3.out.trans (Bw4.mono hBw3.out.size)
                  clear Bw4
                  go_wp2_with fail
                  refine (HQ3.out _ w4).mono ?_
                  rintro e w5 ⟨rfl, Bw5⟩
                  have hBw5 : Hid (Below w2.heap.size w2 w5) := hBw4.out.trans (Bw5.mono hBw4.out.size)
                  clear Bw5 HQ2 HQ3
                  go_wp2_with fail
                  refine (num8_any _ _).mono ?_
                  rintro e wn ⟨rfl, hwn⟩
                  have hwn := hwn.symm
                  subst hwn
                  go_wp2_with fail
                  refine (num8_any _ _).mono ?_
                  rintro e wn ⟨rfl, hwn⟩
                  have hwn := hwn.symm
                  subst hwn
                  go_wp2_with fail
                  refine (num8_any _ _).mono ?_
                  rintro e wn ⟨rfl, hwn⟩
                  have hwn := hwn.symm
                  subst hwn
                  go_wp2_with fail
                  go_roundw
                  case rel => exact ⟨q + 1, by simp, hlt, hBw5.out⟩
                  case measure => simp [intOf]; omega
              · go_wp2_with fail
                go_meet
                case rel => exact hI.out.2
        case rest =>
          obtain ⟨w3, hw3⟩ : ∃ w3, w3 = wc := ⟨_, rfl⟩
          rw [← hw3] at hcut ⊢
          clear hw3
          have hBw3 := hcut
          clear hcut hBwe
          as_aux_lemma =>
            have HO : Hid (URow64 (w3.alloc (.cells (od8Z.map (Value.int .u64)).toArray 39)) (some ⟨w3.heap.size, 0, none⟩) 10 od8F) := od8_row (heap_alloc_new _ _)
            have hBw4 : Hid (Below w2.heap.size w2 (w3.alloc (.cells (od8Z.map (Value.int .u64)).toArray 39))) := hBw3.out.alloc hBw3.out.size _
            go_upto_region 29 with fail
            refine wp_region_list ?_
            refine wpList_buildFlatAt rfl _ 39 10 _ rfl .u64 od8Z w3.heap.size rfl _ rfl Tryz.underlying28 (by kernel_rfl) (by kernel_rfl) rfl (by decide) (by decide) rfl ?_
            generalize w3.alloc (.cells (od8Z.map (Value.int .u64)).toArray 39) = w4 at *
            have HOW : Hid (∀ wx, Below w4.heap.size w4 wx → URow64 wx (some ⟨w3.heap.size, 0, none⟩) 10 od8F) := fun wx hx => HO.out.below hx
            go_wp2_with fail
            refine (od8_pack _ 10 w4 HO.out (by omega) (HT.out.below (HB2.out.trans (hBw4.out.mono HB2.out.size)))).mono ?_
            rintro e w5 ⟨g5, bs, rfl, hg5, Bw5, hD, hn1, hn2, hL5, h255⟩
            have HD := hide hD
            have HN := hide (And.intro hn1 hn2)
            have HL5 := hide hL5
            have H255 := hide h255
            clear hD hn1 hn2 hL5 h255
            have HG5 := hide (fun wx (hx : Below w5.heap.size w5 wx) => show wx.heap[g5]? = some (.cells (bytesV bs).toArray 5 (0, 0)) by rw [hx.block g5 (size_lt_of_row hg5)]; exact hg5)
            have hBw5 : Hid (Below w2.heap.size w2 w5) := hBw4.out.trans (Bw5.mono hBw4.out.size)
            have b45 := hide Bw5
            clear hg5 Bw5 HO
            obtain ⟨L, hL⟩ : ∃ L, bs.length = L := ⟨_, rfl⟩
            have HL := hide hL
            rw [hL]
            clear hL
            go_wp2_with fail
            refine (cUnpack64_any 6 (.slice (some ⟨g5, 0, none⟩) L L) bs 10 w5 (by omega) (by omega) (by rw [← HL.out]; exact .inl (isBytes_row (HG5.out w5 (Below.refl _ _)))) H255.out HL5.out (by omega) (HT.out.below (HB2.out.trans (hBw5.out.mono HB2.out.size)))).mono ?_
            rintro e w6 (⟨-, -, hno⟩ | ⟨u, f5, rfl, hU, -, hEq⟩)
            · exact (hno od8F HD.out).elim
            obtain ⟨p6, cap6, rfl, hcap6, hrow6⟩ := hU.row
            have Bw6 := hU.2.1
            have hBw6 : Hid (Below w2.heap.size w2 w6) := hBw5.out.trans (Bw6.mono hBw5.out.size)
            have b56 := hide Bw6
            have HE6 := hide (hEq od8F HD.out)
            have HR6 := hide (fun wx (hx : Below w6.heap.size w6 wx) => hrow6.below hx)
            clear hU hEq hrow6 Bw6 HD
            go_wp2_with fail
            refine (best64_many _ 4097 cp w6 (by omega)).mono ?_
            rintro e w7 ⟨rfl, Bw7⟩
            have hBw7 : Hid (Below w2.heap.size w2 w7) := hBw6.out.trans (Bw7.mono hBw6.out.size)
            have b67 := hide Bw7
            clear Bw7
            go_wp2_with fail
            refine (sizes64_many _ 4097 cp w7 (by omega)).mono ?_
            rintro e wn ⟨rfl, hwn⟩
            have hwn := hwn.symm
            subst hwn
            have b57 : Hid (Below w5.heap.size w5 w7) := b56.out.trans (b67.out.mono b56.out.size)
            have b47 : Hid (Below w4.heap.size w4 w7) := b45.out.trans (b57.out.mono b45.out.size)
            go_wp2_with fail
            refine (num8_any _ _).mono ?_
            rintro e wn ⟨rfl, hwn⟩
            have hwn := hwn.symm
            subst hwn
            go_wp2_with fail
            refine (num8_any _ _).mono ?_
            rintro e wn ⟨rfl, hwn⟩
            have hwn := hwn.symm
            subst hwn
            go_wp2_with fail
            refine (same8_any p6 _ 10 10 cap6 10 f5 od8F w7 (HR6.out w7 b67.out) (HOW.out w7 b47.out) (by omega) (by omega)).mono ?_
            rintro e w8 ⟨vv, rfl, hvv, m, hw8⟩
            obtain rfl : vv = true := hvv.2 ⟨rfl, HE6.out⟩
            have hBw8 : Hid (Below w2.heap.size w2 w8) := by rw [hw8]; exact below_drewN hBw7.out m
            have HG8 : Hid (w8.heap[g5]? = some (.cells (bytesV bs).toArray 5 (0, 0))) := by rw [hw8]; exact HG5.out w7 b57.out
            clear hw8 hvv
            have HNN := hide (none8_false g5 bs w8 HG8.out HN.out.1 HL5.out HN.out.2 (getD_lt8 bs H255.out 1))
            rw [HL.out] at HNN
            go_wp2_with fail
            refine HNN.out.mono ?_
            rintro e wn ⟨rfl, hwn⟩
            have hwn := hwn.symm
            subst hwn
            go_wp2_with fail
            refine (num8_any _ _).mono ?_
            rintro e wn ⟨rfl, hwn⟩
            have hwn := hwn.symm
            subst hwn
            go_wp2_with fail
            refine (num8_any _ _).mono ?_
            rintro e wn ⟨rfl, hwn⟩
            have hwn := hwn.symm
            subst hwn
            go_wp2_with fail
            refine (works8_any w8 (HT.out.below (HB2.out.trans (hBw8.out.mono HB2.out.size)))).mono ?_
            rintro e w9 ⟨rfl, Bw9⟩
            have hBw9 : Hid (Below w2.heap.size w2 w9) := hBw8.out.trans (Bw9.mono hBw8.out.size)
            clear Bw9
            go_wp2_with fail
            go_ret
            exact ⟨rfl, HB2.out.trans (hBw9.out.mono HB2.out.size)⟩
end Go.Proofs.YtgjjkopmoobilaaGreatDoor

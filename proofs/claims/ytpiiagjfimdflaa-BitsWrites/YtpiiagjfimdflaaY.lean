/- The walk of BitsBack. -/
import Derived.Test.YtpiiagjfimdflaaX
import Derived.Test.YtpiiagjfimdflaaU
namespace Go.Proofs.Ytpiiagjfimdflaa
open Go.RowKit
open M
set_option linter.unusedVariables false

/-- A number that was kept: Do, On, N, X. -/
abbrev Q4 := Int × Int × Int × Nat
def qB (q : Q4) : List Bool := opB q.1 q.2.2.1 q.2.2.2
def qCells (q : Q4) : List Value := [.int .i64 q.1, .int .i64 q.2.1, .int .u64 (q.2.2.2 : Int), .int .i64 q.2.2.1]
def LB (K : List Q4) : List Bool := K.flatMap qB
def GoodQ (q : Q4) : Prop := Fit q.1 q.2.2.1 q.2.2.2 ∧ q.2.2.2 < 18446744073709551616

theorem LB_len (K : List Q4) (h : ∀ q ∈ K, GoodQ q) : (LB K).length ≤ 80 * K.length := by
  induction K with
  | nil => simp [LB]
  | cons q K ih =>
    have h1 := opB_len _ _ _ (h q (by simp)).1
    have h2 := ih fun q hq => h q (by simp [hq])
    have e : (LB (q :: K)).length = (qB q).length + (LB K).length := by simp [LB]
    have e2 : (qB q).length ≤ 80 := h1
    rw [e]; simp; omega

theorem LB_snoc (K : List Q4) (q : Q4) : LB (K ++ [q]) = LB K ++ qB q := by simp [LB]

/-- The kept numbers in memory. -/
def Kept (w : World) (base : Nat) (v : Value) (K : List Q4) : Prop :=
  w.ownsRow base 65 4 v K.length (K.flatMap qCells) ∧ (∀ q ∈ K, GoodQ q) ∧ (K = [] → v = .slice none 0 0)

theorem Kept.keep {w w' : World} {base : Nat} {v : Value} {K : List Q4} (h : Kept w base v K) (hk : ∀ g, v.ownBlock = some g → w'.heap[g]? = w.heap[g]?) : Kept w' base v K := ⟨ownsRow_keep h.1 hk, h.2.1, h.2.2⟩

theorem Kept.row {w : World} {base : Nat} {v : Value} {K : List Q4} (h : Kept w base v K) {g : Nat} (hg : v.ownBlock = some g) : base ≤ g ∧ g < w.heap.size ∧ ∃ n, w.cell? ⟨g, 0, none⟩ = some (.int .i64 n) := by
  obtain ⟨⟨h1, h2⟩, _, h3⟩ := h
  rcases h2 with ⟨rfl, _⟩ | ⟨g', cap, cur, rfl, h4, h5, h6, _, h7, h8⟩
  · simp [Value.ownBlock] at hg
  · simp only [Value.ownBlock, Option.some.injEq] at hg
    subst hg
    refine ⟨h4, size_lt_of_row h5, ?_⟩
    cases K with
    | nil => have := h3 rfl; simp at this
    | cons q K =>
      rw [cell_of_row _ _ _ _ _ _ h5]
      have h10 := congrArg (fun l => l[0]?) h8
      simp only [List.flatMap_cons, qCells, List.cons_append, List.getElem?_cons_zero] at h10
      rw [List.getElem?_take_of_lt (by simp)] at h10
      exact ⟨_, by simpa using h10⟩

theorem Kept.only {w w' : World} {base : Nat} {v : Value} {K : List Q4} (h : Kept w base v K) {b o1 o2 : Nat} (ho : Only b o1 o2 w w') (hb : b < base) : Kept w' base v K :=
  h.keep fun g hg => ho.block g (h.row hg).2.1 (by have := (h.row hg).1; omega)

theorem Kept.below {w w' : World} {base : Nat} {v : Value} {K : List Q4} (h : Kept w base v K) (hB : Below w.heap.size w w') : Kept w' base v K :=
  h.keep fun g hg => hB.block g (h.row hg).2.1

theorem Chain.grown {w w' : World} {lo : Nat} {l : List Bool} {row : Option Nat} (hg : w.grownBy w' row) (hrow : ∀ g, row = some g → ∃ k n, w.cell? ⟨g, 0, none⟩ = some (.int k n)) : ∀ {k : Nat} {p : Option Addr}, Chain w lo l k p → Chain w' lo l k p
  | 0, _, h => h
  | _ + 1, _, ⟨g, q, hp, hlo, hk, hr⟩ => by
    have hgr : some g ≠ row := by
      intro e
      obtain ⟨k, n, h1⟩ := hrow g e.symm
      rw [hk.1] at h1; simp at h1
    have e := hg.block g hk.lt hgr
    exact ⟨g, q, hp, hlo, ⟨by rw [World.cell?_of_block (w := w) e]; exact hk.1, fun j hj => by rw [World.cell?_of_block (w := w) e]; exact hk.2 j hj⟩, Chain.grown hg hrow hr⟩

theorem Wr.grown {w w' : World} {lo b off : Nat} {l : List Bool} {e : Int} (h : Wr w lo b off l e) {row : Option Nat} (hg : w.grownBy w' row) (hrow : ∀ g, row = some g → ∃ k n, w.cell? ⟨g, 0, none⟩ = some (.int k n)) (hb : row ≠ some b) : Wr w' lo b off l e := by
  obtain ⟨p, h1, h2⟩ := h
  exact ⟨p, h1.keep (hg.block b (block_lt_of_cell h1.full) (fun e => hb e.symm)), Chain.grown hg hrow h2⟩

/-- The first loop's state. -/
def BackSt (w : World) (p : Option Addr) (kn kc i : Nat) (wr : World) : Prop :=
  ∃ K : List Q4, K.length = kn ∧ kn ≤ i ∧ Wr wr (w.heap.size + 1) w.heap.size 0 (LB K) 0 ∧ Kept wr (w.heap.size + 1) (.slice p kn kc) K ∧ w.heap.size + 1 ≤ wr.heap.size ∧ Below w.heap.size w wr

theorem back_start (w : World) : BackSt w none 0 0 0 (w.alloc (.cells Try.zeroCells27 27)) :=
  ⟨[], rfl, Nat.le_refl _, wr_of (heap_alloc_new _ _), ⟨World.ownsRow_nil _ _ _ _, by simp, fun _ => rfl⟩, by simp, (Below.refl _ _).alloc (Nat.le_refl _) _⟩

theorem BackSt.step {w w2 w3 : World} {p : Option Addr} {kn kc i gk cap : Nat} {K : List Q4} {dd nn mm : Int} {xx : Nat} (hK : K.length = kn) (hki : kn ≤ i) (hq : GoodQ (dd, nn, mm, xx)) (hW : Wr w2 (w.heap.size + 1) w.heap.size 0 (LB K ++ opB dd mm xx) 0) (hKp : Kept w2 (w.heap.size + 1) (.slice p kn kc) K)
    (hs : w.heap.size + 1 ≤ w2.heap.size) (hB : Below w.heap.size w w2)
    (ho : w3.ownsRow (w.heap.size + 1) 65 4 (.slice (some ⟨gk, 0, none⟩) (kn + 1) cap) (kn + 1) (K.flatMap qCells ++ qCells (dd, nn, mm, xx))) (hg : (w2.alloc (.cells #[.int .i64 dd, .int .i64 nn, .int .u64 xx, .int .i64 mm] 65)).grownBy w3 (Value.slice p kn kc).ownBlock) :
    BackSt w (some ⟨gk, 0, none⟩) (kn + 1) cap (i + 1) w3 := by
  have B1 : Below w2.heap.size w2 (w2.alloc (.cells #[.int .i64 dd, .int .i64 nn, .int .u64 xx, .int .i64 mm] 65)) := (Below.refl _ _).alloc (Nat.le_refl _) _
  have hs2 := B1.size
  have W1 := hW.below B1
  have K1 := hKp.below B1
  have C1 := hB.trans (B1.mono (by omega : w.heap.size ≤ w2.heap.size))
  generalize w2.alloc (.cells #[.int .i64 dd, .int .i64 nn, .int .u64 xx, .int .i64 mm] 65) = wa at *
  refine ⟨K ++ [(dd, nn, mm, xx)], by simp [hK], by omega, ?_, ⟨?_, ?_, fun h => by simp at h⟩, Nat.le_trans hs (Nat.le_trans hs2 hg.size), ?_⟩
  · rw [LB_snoc]
    exact W1.grown hg (fun g hg => ⟨_, (K1.row hg).2.2⟩) (fun e => by have := (K1.row e).1; omega)
  · rw [List.flatMap_append, List.length_append, List.length_singleton, hK]
    simpa using ho
  · intro q hq'
    rw [List.mem_append] at hq'
    rcases hq' with h | h
    · exact hKp.2.1 q h
    · simp at h; subst h; exact hq
  · refine C1.trans ⟨hg.os, hg.tape, hg.output, ?_, fun k hk => ?_⟩
    · exact hg.size
    · exact hg.block k (by omega) (fun e => by have := (K1.row e.symm).1; omega)

theorem cell_new4 (w : World) (x0 x1 x2 x3 : Value) (t : TypeId) (j : Nat) (u : Value) (h : ([x0, x1, x2, x3] : List Value)[j]? = some u) : (w.alloc (.cells #[x0, x1, x2, x3] t)).cell? ((⟨w.heap.size, 0, none⟩ : Addr).add j) = some u := by
  rw [Addr.add_mid, cell_of_row _ _ _ _ _ _ (heap_alloc_new _ _)]
  simpa using h

theorem flat_at (K : List Q4) (j : Nat) (q : Q4) (h : K[j]? = some q) (t : Nat) (ht : t < 4) : (K.flatMap qCells)[j * 4 + t]? = (qCells q)[t]? := by
  induction K generalizing j with
  | nil => simp at h
  | cons q0 K ih =>
    rw [List.flatMap_cons]
    have hl : (qCells q0).length = 4 := rfl
    cases j with
    | zero =>
      simp at h; subst h
      rw [List.getElem?_append_left (by rw [hl]; omega), Nat.zero_mul, Nat.zero_add]
    | succ j =>
      rw [List.getElem?_cons_succ] at h
      rw [List.getElem?_append_right (by rw [hl]; omega), hl, show (j + 1) * 4 + t - 4 = j * 4 + t from by omega]
      exact ih j h

theorem Kept.at {w : World} {base kn kc : Nat} {p : Option Addr} {K : List Q4} (h : Kept w base (.slice p kn kc) K) (hK : K.length = kn) (hn : 0 < kn) :
    ∃ gk ok, p = some ⟨gk, ok, none⟩ ∧ gk < w.heap.size ∧ ∀ j q, K[j]? = some q → w.cell? ⟨gk, ok + j * 4, none⟩ = some (.int .i64 q.1) ∧ w.cell? ⟨gk, ok + j * 4 + 1, none⟩ = some (.int .i64 q.2.1) ∧ w.cell? ⟨gk, ok + j * 4 + 2, none⟩ = some (.int .u64 (q.2.2.2 : Int)) ∧ w.cell? ⟨gk, ok + j * 4 + 3, none⟩ = some (.int .i64 q.2.2.1) := by
  obtain ⟨⟨h1, h2⟩, _, h3⟩ := h
  rcases h2 with ⟨h4, _⟩ | ⟨g', cap, cur, h0, h4, h5, h6, _, h7, h8⟩
  · simp at h4; omega
  · simp only [Value.slice.injEq] at h0
    refine ⟨g', 0, h0.1, size_lt_of_row h5, fun j q hj => ?_⟩
    have hjK : j < K.length := by
      rcases Nat.lt_or_ge j K.length with h | h
      · exact h
      · rw [List.getElem?_eq_none h] at hj; simp at hj
    have key : ∀ t, t < 4 → w.cell? ⟨g', 0 + j * 4 + t, none⟩ = (qCells q)[t]? := by
      intro t ht
      rw [cell_of_row _ _ _ _ _ _ h5, ← flat_at K j q hj t ht, ← h8, List.getElem?_take_of_lt (by omega)]
      simp
    exact ⟨key 0 (by omega), key 1 (by omega), key 2 (by omega), key 3 (by omega)⟩

theorem IsBytes.news {w : World} {ad : Addr} {n c : Nat} {bs : List Nat} (h : IsBytes w (.slice (some ad) n c) bs) : n = bs.length ∧ ∀ j u, (bytesV bs)[j]? = some u → w.cell? (ad.add j) = some u := by
  rcases h with ⟨h, _⟩ | ⟨g, o, cap, h, h2⟩
  · simp at h
  · simp only [Value.slice.injEq, Option.some.injEq] at h
    obtain ⟨rfl, rfl, rfl⟩ := h
    refine ⟨rfl, fun j u hj => ?_⟩
    have hjl : j < bs.length := by
      rcases Nat.lt_or_ge j bs.length with h | h
      · exact h
      · rw [List.getElem?_eq_none (by simpa [bytesV] using h)] at hj; simp at hj
    rw [Addr.add_mid, h2 j hjl, ← hj]
    simp [bytesV, hjl]

theorem isBytes_own {w : World} {base g n cap : Nat} {bs : List Nat} (h : w.ownsRow base 5 1 (.slice (some ⟨g, 0, none⟩) n cap) n (bytesV bs)) (hn : bs.length = n) : IsBytes w (.slice (some ⟨g, 0, none⟩) n cap) bs := by
  obtain ⟨h1, h2⟩ := h
  rcases h2 with ⟨h2, _⟩ | ⟨g', cap', cur, h0, h4, h5, h6, _, h7, h8⟩
  · simp at h2
  · simp only [Value.slice.injEq, Option.some.injEq, Addr.mk.injEq] at h0
    obtain ⟨⟨rfl, _⟩, _, rfl⟩ := h0
    refine .inr ⟨g, 0, cap, by rw [hn], fun i hi => ?_⟩
    rw [cell_of_row _ _ _ _ _ _ h5]
    have h9 := congrArg (fun l => l[i]?) h8
    rw [List.getElem?_take_of_lt (by omega)] at h9
    rw [Nat.zero_add]
    have h10 : cur[i]? = (bytesV bs)[i]? := by simpa using h9
    rw [h10]
    simp [bytesV, hi]

theorem grown_below {w w' : World} {row : Option Nat} {B : Nat} (hg : w.grownBy w' row) (hr : ∀ g, row = some g → B ≤ g) (hB : B ≤ w.heap.size) : Below B w w' :=
  ⟨hg.os, hg.tape, hg.output, hg.size, fun k hk => hg.block k (by omega) (fun e => by have := hr k e.symm; omega)⟩

theorem bytesV_cell (bs : List Nat) : ∀ u ∈ bytesV bs, u.oneCell' = true := by
  intro u hu
  simp only [bytesV, List.mem_map] at hu
  obtain ⟨n, _, rfl⟩ := hu
  rfl

theorem LB_at (K : List Q4) (j : Nat) (q : Q4) (h : K[j]? = some q) : LB K = LB (K.take j) ++ qB q ++ LB (K.drop (j + 1)) ∧ LB (K.take (j + 1)) = LB (K.take j) ++ qB q := by
  have hj : j < K.length := by
    rcases Nat.lt_or_ge j K.length with h1 | h1
    · exact h1
    · rw [List.getElem?_eq_none h1] at h; simp at h
  have hq : K[j] = q := by rw [List.getElem?_eq_getElem hj] at h; simpa using h
  have h2 : LB (K.take (j + 1)) = LB (K.take j) ++ qB q := by
    rw [List.take_succ_eq_append_getElem hj, LB_snoc, hq]
  refine ⟨?_, h2⟩
  rw [← h2]
  unfold LB
  rw [← List.flatMap_append, List.take_append_drop]

theorem drewN_below (B : Nat) (w : World) (n : Nat) : Below B w (w.drewN n) := ⟨rfl, rfl, rfl, Nat.le_refl _, fun _ _ => rfl⟩

theorem endE_more (bs : List Nat) (L : List Bool) (h : packed L = bs) : endE (strOf (bs ++ [0])) L.length 0 = 14 := by
  have hs : (strOf (bs ++ [0])).size = (L.length + 7) / 8 + 1 := by rw [strOf_size, ← h]; simp [packed_length]
  unfold endE
  rw [if_pos rfl, if_pos (by rw [hs]; omega)]

theorem rb_more (bs : List Nat) (L : List Bool) (h : packed L = bs) : ∃ Z, rb (strOf (bs ++ [0])) = L ++ Z := by
  subst h
  rw [rb_strOf _ (by intro n hn; rw [List.mem_append] at hn; rcases hn with h | h; exact packed_lt L n h; simp at h; omega), rbits_append, rbits_packed, List.append_assoc]
  exact ⟨_, rfl⟩

theorem rb_same (bs : List Nat) (L : List Bool) (h : packed L = bs) : ∃ Z, rb (strOf bs) = L ++ Z := by
  subst h
  exact ⟨_, rb_packed L⟩

theorem rb_less (bs : List Nat) (L : List Bool) (h : packed L = bs) (hn : 0 < bs.length) : ∃ k, rb (strOf (bs.take (bs.length - 1))) = L.take k := by
  subst h
  have hl := packed_length L
  refine ⟨8 * ((packed L).length - 1), ?_⟩
  rw [rb_strOf _ (fun n hn => packed_lt L n (List.mem_of_mem_take hn))]
  have h1 : rbits (packed L) = rbits ((packed L).take ((packed L).length - 1)) ++ rbits ((packed L).drop ((packed L).length - 1)) := by rw [← rbits_append, List.take_append_drop]
  have h2 := congrArg (List.take (8 * ((packed L).length - 1))) h1
  rw [List.take_left' (by simp [rbits_length]), rbits_packed, List.take_append_of_le_length (by omega)] at h2
  exact h2.symm

theorem IsBytes.less {w : World} {ad : Addr} {n c : Nat} {bs : List Nat} (h : IsBytes w (.slice (some ad) n c) bs) (k : Nat) (hk : k ≤ n) : IsBytes w (.slice (some ad) k c) (bs.take k) := by
  rcases h with ⟨h, _⟩ | ⟨g, o, cap, h, h2⟩
  · simp at h
  · simp only [Value.slice.injEq, Option.some.injEq] at h
    obtain ⟨rfl, rfl, rfl⟩ := h
    refine .inr ⟨g, o, c, by simp; omega, fun i hi => ?_⟩
    have hi' : i < k := by simp at hi; omega
    rw [h2 i (by omega)]
    simp [List.getElem?_take_of_lt hi']

set_option maxRecDepth 100000 in
set_option maxHeartbeats 4000000 in
theorem back_any (a0 : Option Addr) (b off len cap : Nat) (d n m : Nat → Int) (x : Nat → Nat) (w : World) (hlen : len ≤ 9223372036854775807) (ha0 : 0 < len → a0 = some ⟨b, off, none⟩ ∧ b < w.heap.size) (hops : ∀ i, i < len → OpAt w b (off + i * 4) (d i) (n i) (m i) (x i)) :
    Calls Try.prog 5 #[.slice a0 len cap] w fun e w' => e = .returned (.bool true) ∧ Below w.heap.size w w' := by
  have HO : Hid (∀ i, i < len → OpAt w b (off + i * 4) (d i) (n i) (m i) (x i)) := hops
  have HA0 : Hid (0 < len → a0 = some ⟨b, off, none⟩ ∧ b < w.heap.size) := ha0
  clear hops ha0
  have F : Hid (BackSt w none 0 0 0 (w.alloc (.cells Try.zeroCells27 27))) := back_start w
  have hz : (Try.prog.info? 65).bind (·.zero) = some (.agg #[.int .i64 0, .int .i64 0, .int .u64 0, .int .i64 0]) := by kernel_rfl
  have hs : (Try.prog.info? 65).map (·.size) = some 4 := by kernel_rfl
  have hb : (Try.prog.info? 65).map (·.bytes) = some 32 := by kernel_rfl
  cases hi : Try.prog.info? 65 with
  | none => simp [hi] at hs
  | some i65 =>
  simp only [hi, Option.bind_some, Option.map_some, Option.some.injEq] at hz hs hb
  have Hi65 : Hid (Try.prog.info? 65 = some i65 ∧ i65.zero = some (.agg #[.int .i64 0, .int .i64 0, .int .u64 0, .int .i64 0]) ∧ i65.size = 4 ∧ i65.bytes = 32) := ⟨hi, hz, hs, hb⟩
  clear hi hz hs hb
  have hz : (Try.prog.info? 5).bind (·.zero) = some (.int .u8 0) := by kernel_rfl
  have hs : (Try.prog.info? 5).map (·.size) = some 1 := by kernel_rfl
  have hb : (Try.prog.info? 5).map (·.bytes) = some 1 := by kernel_rfl
  cases hi : Try.prog.info? 5 with
  | none => simp [hi] at hs
  | some i5 =>
  simp only [hi, Option.bind_some, Option.map_some, Option.some.injEq] at hz hs hb
  have Hi5 : Hid (Try.prog.info? 5 = some i5 ∧ i5.zero = some (.int .u8 0) ∧ i5.size = 1 ∧ i5.bytes = 1) := ⟨hi, hz, hs, hb⟩
  clear hi hz hs hb
  go_enter Try.func5, Try.ntmps5
  go_wp2
  go_loopw [4, 5] (fun t4 t5 wr => ∃ (i kn kc : Nat) (p : Option Addr), i ≤ 400 ∧ t5 = .int .i64 i ∧ t4 = .slice p kn kc ∧ Hid (i ≤ len) ∧ Hid (BackSt w p kn kc i wr)) (fun _ t5 _ => 400 - (intOf t5).toNat)
  case atStart => exact ⟨0, 0, 0, none, by omega, rfl, rfl, Nat.zero_le _, F⟩
  case round =>
    obtain ⟨i, kn, kc, p, hi, rfl, rfl, Hi, HS⟩ := hrel
    by_cases hlt : i < len ∧ i < 400
    · obtain ⟨hl1, hl2⟩ := hlt
      obtain ⟨ha0, hb⟩ := HA0.out (by omega)
      subst ha0
      obtain ⟨K, hK, hki, W0, K0, s0, B0⟩ := HS.out
      clear HS
      obtain ⟨c0, c1, c2, c3, bd, bn, bx, bm⟩ := HO.out i hl1
      have ec : ∀ j, wr.cell? ⟨b, off + i * 4 + j, none⟩ = w.cell? ⟨b, off + i * 4 + j, none⟩ := fun j => B0.cell (p := ⟨b, off + i * 4 + j, none⟩) hb
      have e0 := (ec 0).trans c0
      have e1 := (ec 1).trans c1
      have e2 := (ec 2).trans c2
      have e3 := (ec 3).trans c3
      rw [Nat.add_zero] at e0
      clear ec c0 c1 c2 c3
      generalize d i = dd at *
      generalize n i = nn at *
      generalize m i = mm at *
      generalize x i = xx at *
      go_wp2_with fail
      refine (fits_any dd nn mm xx _ bx).mono ?_
      rintro _ w1 ⟨rfl, B1⟩
      by_cases hF : Fit dd mm xx
      · rw [@decide_eq_true _ (Classical.propDecidable _) hF]
        have ec : ∀ j, w1.cell? ⟨b, off + i * 4 + j, none⟩ = wr.cell? ⟨b, off + i * 4 + j, none⟩ := fun j => B1.cell (p := ⟨b, off + i * 4 + j, none⟩) (by show b < _; omega)
        have f0 := (ec 0).trans e0
        have f1 := (ec 1).trans e1
        have f2 := (ec 2).trans e2
        have f3 := (ec 3).trans e3
        rw [Nat.add_zero] at f0
        have W1 := W0.below B1
        have K1 := K0.below B1
        have s1 := Nat.le_trans s0 B1.size
        have C1 := B0.trans (B1.mono (by omega : w.heap.size ≤ wr.heap.size))
        have hLl : (LB K).length ≤ 80 * kn := by rw [← hK]; exact LB_len K K0.2.1
        clear ec e0 e1 e2 e3 W0 K0 s0 B0 B1
        go_wp2_with fail
        refine (put_fit (w.heap.size + 1) w.heap.size 0 (LB K) dd nn mm xx w1 W1 (by omega) s1 (by omega) bx hF).mono ?_
        rintro _ w2 ⟨rfl, W2, O2⟩
        have ec : ∀ j, w2.cell? ⟨b, off + i * 4 + j, none⟩ = w1.cell? ⟨b, off + i * 4 + j, none⟩ := fun j => World.cell?_of_block (w := w1) (O2.block b (by omega) (by omega))
        have g0 := (ec 0).trans f0
        have g1 := (ec 1).trans f1
        have g2 := (ec 2).trans f2
        have g3 := (ec 3).trans f3
        rw [Nat.add_zero] at g0
        have K2 := K1.only O2 (by omega)
        have s2 := Nat.le_trans s1 O2.size
        have C2 := C1.trans (O2.below (Nat.le_refl _) (by omega))
        clear ec f0 f1 f2 f3 W1 K1 s1 C1 O2
        have HQ : Hid (K.length = kn ∧ kn ≤ i ∧ GoodQ (dd, nn, mm, xx)) := ⟨hK, hki, hF, bx⟩
        have HW2 : Hid (Wr w2 (w.heap.size + 1) w.heap.size 0 (LB K ++ opB dd mm xx) 0) := W2
        have HK2 : Hid (Kept w2 (w.heap.size + 1) (.slice p kn kc) K) := K2
        have HC2 : Hid (Below w.heap.size w w2) := C2
        clear W2 K2 C2 hK hF
        go_wp2_with (at_builtin; refine wpList_append_lies _ rfl _ _ 22 rfl (w.heap.size + 1) 65 i65 (.agg #[.int .i64 0, .int .i64 0, .int .u64 0, .int .i64 0]) 4 32 Try.underlying22 Hi65.out.1 Hi65.out.2.1 Hi65.out.2.2.1 Hi65.out.2.2.2 rfl (by decide) (.slice p kn kc) kn (K.flatMap qCells) rfl ?c1 ⟨w2.heap.size, 0, none⟩ 1 1 (qCells (dd, nn, mm, xx)) rfl rfl ?c2 ?c3 (by decide) ?c4 ?c5 ?c7 _ rfl ?c6)
        case c1 => have := HK2.out.1; rw [HQ.out.1] at this; exact this.alloc _
        case c2 => intro j u hj; exact cell_new4 w2 _ _ _ _ 65 j u hj
        case c3 => intro u hu; simp [qCells] at hu; rcases hu with rfl | rfl | rfl | rfl <;> rfl
        case c4 => unfold maxLen; omega
        case c5 => omega
        case c7 => simp; omega
        case c6 =>
          intro gk kcap w3 ho hg hat hlt3
          have HS3 : Hid (BackSt w (some ⟨gk, 0, none⟩) (kn + 1) kcap (i + 1) w3) := BackSt.step HQ.out.1 HQ.out.2.1 HQ.out.2.2 HW2.out HK2.out s2 HC2.out ho hg
          clear ho hg hat hlt3 HW2 HK2 HC2 HQ
          go_wp2_with fail
          go_roundw
          case rel => exact ⟨i + 1, kn + 1, kcap, _, by omega, by go_num, rfl, hl1, HS3⟩
          case measure => simp [intOf]; omega
      · rw [@decide_eq_false _ (Classical.propDecidable _) hF]
        have HS3 : Hid (BackSt w p kn kc (i + 1) w1) := ⟨K, hK, by omega, W0.below B1, K0.below B1, Nat.le_trans s0 B1.size, B0.trans (B1.mono (by omega))⟩
        clear W0 K0 s0 B0 B1 e0 e1 e2 e3
        go_wp2_with fail
        go_roundw
        case rel => exact ⟨i + 1, kn, kc, p, by omega, by go_num, rfl, hl1, HS3⟩
        case measure => simp [intOf]; omega
    · rcases (show (¬ i < len) ∨ (i < len ∧ ¬ i < 400) from by omega) with hx1 | ⟨hx1, hx2⟩
      · obtain ⟨K, hK, hki, W0, K0, s0, B0⟩ := HS.out
        clear HS
        have hLl : (LB K).length ≤ 80 * kn := by rw [← hK]; exact LB_len K K0.2.1
        have HK : Hid (K.length = kn ∧ (∀ q ∈ K, GoodQ q)) := ⟨hK, K0.2.1⟩
        have HKat : Hid (0 < kn → ∃ gk ok, p = some ⟨gk, ok, none⟩ ∧ gk < wr.heap.size ∧ ∀ j q, K[j]? = some q → wr.cell? ⟨gk, ok + j * 4, none⟩ = some (.int .i64 q.1) ∧ wr.cell? ⟨gk, ok + j * 4 + 1, none⟩ = some (.int .i64 q.2.1) ∧ wr.cell? ⟨gk, ok + j * 4 + 2, none⟩ = some (.int .u64 (q.2.2.2 : Int)) ∧ wr.cell? ⟨gk, ok + j * 4 + 3, none⟩ = some (.int .i64 q.2.2.1)) := fun h => K0.at hK h
        generalize hL : LB K = L at *
        have HL : Hid (LB K = L) := hL
        obtain ⟨bs, hbs⟩ : ∃ bs, packed L = bs := ⟨_, rfl⟩
        have Hbs : Hid (packed L = bs) := hbs
        have hnb : bs.length = (L.length + 7) / 8 := by rw [← hbs, packed_length]
        have hkn : kn ≤ 400 := by omega
        clear hL hbs K0 hK hki
        go_wp2_with fail
        refine (wdone_packed w.heap.size 0 (w.heap.size + 1) wr L W0 s0 (by omega) bs Hbs.out).mono ?_
        rintro e w1 ⟨rfl, G1, B1⟩
        have W1 := W0.below B1
        have I1 := isBytes_row (cap := bs.length) G1
        have z1 := size_lt_of_row G1
        have s1 := Nat.le_trans s0 B1.size
        have C1 := B0.trans (B1.mono (by omega : w.heap.size ≤ wr.heap.size))
        have LV := W1.lenCell
        clear W0 B0 G1
        obtain ⟨nb, hnb1⟩ : ∃ nb, bs.length = nb := ⟨_, rfl⟩
        obtain ⟨nL, hnL1⟩ : ∃ nL, L.length = nL := ⟨_, rfl⟩
        have Hn : Hid (bs.length = nb ∧ L.length = nL) := ⟨hnb1, hnL1⟩
        rw [hnb1] at I1 hnb ⊢
        rw [hnL1] at LV hnb hLl
        clear hnb1 hnL1
        have hq : ((nL : Int) + 7) / 8 = (nb : Int) := by omega
        have Hnb : Hid (nb = (nL + 7) / 8) := hnb
        have hnbb : nb ≤ 4001 := by omega
        clear hnb
        go_wp2_with fail
        refine (num_any _ _).mono ?_
        rintro e w2 ⟨rfl, rfl⟩
        go_wp2_with fail
        refine (wlen_any w.heap.size 0 (nL : Int) _ LV).mono ?_
        rintro e w3 ⟨rfl, rfl⟩
        go_wp2_with fail
        refine (works_any _).mono ?_
        rintro e w4 ⟨rfl, B4⟩
        have H4 : Hid (Wr w4 (w.heap.size + 1) w.heap.size 0 L 0 ∧ Below w.heap.size w w4 ∧ IsBytes w4 (.slice (some ⟨wr.heap.size, 0, none⟩) nb nb) bs ∧ Below wr.heap.size wr w4) := ⟨W1.below B4, C1.trans (B4.mono (by omega : w.heap.size ≤ w3.heap.size)), isBytes_below I1 B4, B1.trans (B4.mono (by omega))⟩
        have s4 := Nat.le_trans s1 B4.size
        have s4r : wr.heap.size < w4.heap.size := Nat.lt_of_lt_of_le z1 B4.size
        clear C1 I1 LV B4 W1 B1 z1
        go_wp2_with fail
        refine (from_any w4 _ _ H4.out.2.2.1).mono ?_
        rintro e w5 ⟨rfl, hw5⟩
        have hbl : bs.length ≤ 1000000000000 := by rw [Hn.out.1]; omega
        have R5 : Rd w5 w4.heap.size 0 (strOf bs) 0 0 := by rw [hw5]; exact rd_new w4 _ hbl
        have B5 : Below w4.heap.size w4 w5 := by rw [hw5]; exact (Below.refl _ _).alloc (Nat.le_refl _) _
        have z5 : w4.heap.size < w5.heap.size := block_lt_of_cell R5.text
        have HI5 : Hid (IsBytes w5 (.slice (some ⟨wr.heap.size, 0, none⟩) nb nb) bs) := isBytes_below H4.out.2.2.1 B5
        have HR5 : Hid (Rd w5 w4.heap.size 0 (strOf bs) 0 0 ∧ Below w4.heap.size w4 w5) := ⟨R5, B5⟩
        clear R5 B5 hw5
        go_wp2_with (at_builtin; refine wpList_append_own _ rfl (.tmp 66) (.tmp 67) 29 rfl w5.heap.size 5 i5 (.int .u8 0) 1 1 Try.underlying29 Hi5.out.1 Hi5.out.2.1 Hi5.out.2.2.1 Hi5.out.2.2.2 rfl (by decide) (.slice (some ⟨w5.heap.size, 0, none⟩) 0 0) 0 [] rfl ?c1 ⟨wr.heap.size, 0, none⟩ nb nb (bytesV bs) rfl ?c2 ?c3 (bytesV_cell bs) ?c4 ?c5 ?c7 ?c6)
        case c1 => exact World.ownsRow_made _ #[] 0 (Nat.le_refl _) (by decide) rfl
        case c2 => rw [Nat.mul_one, ← Hn.out.1]; simp [bytesV]
        case c3 => exact (isBytes_below HI5.out ((Below.refl _ _).alloc (Nat.le_refl _) _)).news.2
        case c4 => unfold maxLen; omega
        case c5 => omega
        case c7 => simp
        case c6 =>
          intro v6 w6 ho6 hg6 _
          have hs6 : w5.heap.size + 1 ≤ w6.heap.size := by have := hg6.size; simp at this; omega
          have B6 : Below w5.heap.size w5 w6 := ((Below.refl _ _).alloc (Nat.le_refl _) _).trans (grown_below hg6 (fun g hg => by simp [Value.ownBlock] at hg; omega) (by simp))
          have HB6 : Hid (Below w5.heap.size w5 w6) := B6
          have HO6 : Hid (w6.ownsRow w5.heap.size 5 1 v6 nb (bytesV bs)) := by first | exact ho6 | simpa using ho6
          clear hg6 ho6 B6
          go_wp2_with (at_builtin; refine wpList_append_lies _ rfl (.tmp 68) (.tmp 69) 29 rfl w5.heap.size 5 i5 (.int .u8 0) 1 1 Try.underlying29 Hi5.out.1 Hi5.out.2.1 Hi5.out.2.2.1 Hi5.out.2.2.2 rfl (by decide) v6 nb (bytesV bs) rfl ?d1 ⟨w6.heap.size, 0, none⟩ 1 1 [.int .u8 0] rfl rfl ?d2 ?d3 (by decide) ?d4 ?d5 ?d7 _ rfl ?d6)
          case d1 => exact HO6.out.alloc _
          case d2 => intro j u hj; exact cell_new1 w6 _ 5 j u hj
          case d3 => intro u hu; simp at hu; subst hu; rfl
          case d4 => unfold maxLen; omega
          case d5 => omega
          case d7 => simp; omega
          case d6 =>
            intro g7 cap7 w7 ho7 hg7 hat7 hlt7
            have B7 : Below w5.heap.size w6 w7 := ((Below.refl _ _).alloc (by omega) _).trans (grown_below hg7 (fun g hg => (HO6.out.lt g hg).1) (by simp; omega))
            have B57 : Below w5.heap.size w5 w7 := HB6.out.trans B7
            have I7 : IsBytes w7 (.slice (some ⟨g7, 0, none⟩) (nb + 1) cap7) (bs ++ [0]) := isBytes_own (base := w5.heap.size) (by simpa [bytesV] using ho7) (by simp [Hn.out.1])
            have s7 : w5.heap.size + 1 ≤ w7.heap.size := by have := hg7.size; simp at this; omega
            clear HB6 HO6 ho7 hg7 hat7 B7
            go_wp2_with fail
            refine (from_any w7 _ _ I7).mono ?_
            rintro e w8 ⟨rfl, hw8⟩
            have S8 : Rd w8 w7.heap.size 0 (strOf (bs ++ [0])) 0 0 := by rw [hw8]; exact rd_new w7 _ (by simp [Hn.out.1]; omega)
            have B8 : Below w7.heap.size w7 w8 := by rw [hw8]; exact (Below.refl _ _).alloc (Nat.le_refl _) _
            have z8 : w7.heap.size < w8.heap.size := block_lt_of_cell S8.text
            have R8 : Rd w8 w4.heap.size 0 (strOf bs) 0 0 := (HR5.out.1.below B57 z5).below B8 (by omega)
            have B48 : Below w4.heap.size w4 w8 := HR5.out.2.trans ((B57.mono (by omega)).trans (B8.mono (by omega)))
            have hsz1 : (strOf bs).size = nb := by rw [strOf_size, Hn.out.1]
            clear hw8 I7 B57 B8 HR5 HI5
            go_wp2_with fail
            refine (rleft_any w4.heap.size 0 (strOf bs) 0 0 w8 R8).mono ?_
            rintro e w9 ⟨rfl, n9, hw9⟩
            have hleft : ((8 * (strOf bs).size - 0 : Nat) : Int) = 8 * (nb : Int) := by rw [hsz1]; omega
            rw [hleft]
            have R9 : Rd w9 w4.heap.size 0 (strOf bs) 0 0 := by rw [hw9]; exact R8.drewN n9
            have S9 : Rd w9 w7.heap.size 0 (strOf (bs ++ [0])) 0 0 := by rw [hw9]; exact S8.drewN n9
            have B49 : Below w4.heap.size w4 w9 := by rw [hw9]; exact B48.trans (drewN_below _ _ _)
            clear hw9 R8 S8 B48 hleft
            have E1 : Hid (endE (strOf bs) L.length 0 = 0) := by show _ = _; rw [← Hbs.out]; exact end_packed L
            have E2 : Hid (endE (strOf (bs ++ [0])) L.length 0 = 14) := endE_more bs L Hbs.out
            have F1 : Hid (∃ Z, rb (strOf bs) = L ++ Z) := rb_same bs L Hbs.out
            have F2 : Hid (∃ Z, rb (strOf (bs ++ [0])) = L ++ Z) := rb_more bs L Hbs.out
            have Hs1 : Hid ((strOf bs).size = nb) := hsz1
            clear hsz1
            generalize strOf bs = sr at *
            generalize strOf (bs ++ [0]) = ss at *
            generalize hgs : w7.heap.size = gs at *
            have hgs4 : w4.heap.size < gs := by omega
            have HI9 : Hid (Rd w9 w4.heap.size 0 sr (LB (K.take 0)).length 0 ∧ Rd w9 gs 0 ss (LB (K.take 0)).length 0 ∧ Below w4.heap.size w4 w9 ∧ gs < w9.heap.size) := ⟨R9, S9, B49, block_lt_of_cell S9.text⟩
            clear R9 S9 B49 z8 hgs hlt7 s7 hs6
            go_wp2_with fail
            generalize hwr0 : wr = wr0 at *
            clear hwr0
            go_loopw [10] (fun t10 wr => ∃ j : Nat, j ≤ 400 ∧ t10 = .int .i64 j ∧ Hid (j ≤ kn) ∧ Hid (Rd wr w4.heap.size 0 sr (LB (K.take j)).length 0 ∧ Rd wr gs 0 ss (LB (K.take j)).length 0 ∧ Below w4.heap.size w4 wr ∧ gs < wr.heap.size)) (fun t10 _ => 400 - (intOf t10).toNat)
            case atStart => exact ⟨0, by omega, rfl, Nat.zero_le _, HI9⟩
            case round =>
              obtain ⟨j, hj, rfl, Hj, HR⟩ := hrel
              by_cases hjn : j < kn
              · obtain ⟨gk, ok, hp, hgk, hcells⟩ := HKat.out (by omega)
                subst hp
                obtain ⟨q, hq⟩ : ∃ q, K[j]? = some q := ⟨K[j]'(by rw [HK.out.1]; exact hjn), List.getElem?_eq_getElem _⟩
                obtain ⟨hF, hx⟩ := HK.out.2 q (List.mem_of_getElem? hq)
                obtain ⟨c0, c1, c2, c3⟩ := hcells j q hq
                obtain ⟨hA, hA2⟩ := LB_at K j q hq
                rw [HL.out] at hA
                obtain ⟨R0, S0, B0, zs⟩ := HR.out
                have ec : ∀ t, wr.cell? ⟨gk, ok + j * 4 + t, none⟩ = wr0.cell? ⟨gk, ok + j * 4 + t, none⟩ := fun t => (B0.cell (p := ⟨gk, ok + j * 4 + t, none⟩) (by show gk < _; omega)).trans (H4.out.2.2.2.cell (p := ⟨gk, ok + j * 4 + t, none⟩) hgk)
                have e0 := (ec 0).trans c0
                have e1 := (ec 1).trans c1
                have e2 := (ec 2).trans c2
                have e3 := (ec 3).trans c3
                rw [Nat.add_zero] at e0
                clear ec c0 c1 c2 c3 HR
                obtain ⟨dd, nn, mm, xx⟩ := q
                simp only at e0 e1 e2 e3 hF hx
                have hA' : LB (K.take (j + 1)) = LB (K.take j) ++ opB dd mm xx := hA2
                have HA : Hid (L = LB (K.take j) ++ opB dd mm xx ++ LB (K.drop (j + 1))) := hA
                have HA2 : Hid (LB (K.take (j + 1)) = LB (K.take j) ++ opB dd mm xx) := hA'
                clear hA hA2 hA' hcells
                generalize LB (K.take j) = A at *
                generalize LB (K.drop (j + 1)) = A2 at *
                have d1 : ∃ rest, (rb sr).drop A.length = opB dd mm xx ++ rest := by
                  obtain ⟨Z, hZ⟩ := F1.out
                  rw [hZ, HA.out, List.append_assoc, List.append_assoc, List.drop_left' rfl]
                  exact ⟨_, rfl⟩
                have d2 : ∃ rest, (rb ss).drop A.length = opB dd mm xx ++ rest := by
                  obtain ⟨Z, hZ⟩ := F2.out
                  rw [hZ, HA.out, List.append_assoc, List.append_assoc, List.drop_left' rfl]
                  exact ⟨_, rfl⟩
                obtain ⟨rest1, d1⟩ := d1
                obtain ⟨rest2, d2⟩ := d2
                go_wp2_with fail
                refine (got_full w4.heap.size 0 sr A.length dd nn mm xx rest1 wr R0 hx hF d1).mono ?_
                rintro _ wx ⟨rfl, R1, O1⟩
                have S1 := S0.other O1 (by omega)
                have ec : ∀ t, wx.cell? ⟨gk, ok + j * 4 + t, none⟩ = wr.cell? ⟨gk, ok + j * 4 + t, none⟩ := fun t => World.cell?_of_block (w := wr) (O1.block gk (by omega) (by omega))
                have f0 := (ec 0).trans e0
                have f1 := (ec 1).trans e1
                have f2 := (ec 2).trans e2
                have f3 := (ec 3).trans e3
                rw [Nat.add_zero] at f0
                have BX := B0.trans (O1.below (Nat.le_refl _) (by omega))
                have zx := Nat.lt_of_lt_of_le zs O1.size
                clear ec e0 e1 e2 e3 O1 B0 zs S0 R0
                go_wp2_with fail
                refine (got_full gs 0 ss A.length dd nn mm xx rest2 wx S1 hx hF d2).mono ?_
                rintro _ wy ⟨rfl, S2, O2⟩
                have R2 := R1.other O2 (by omega)
                have BY := BX.trans (O2.below (by omega : w4.heap.size ≤ gs) (by omega))
                have zy := Nat.lt_of_lt_of_le zx O2.size
                have HN : Hid (Rd wy w4.heap.size 0 sr (LB (K.take (j + 1))).length 0 ∧ Rd wy gs 0 ss (LB (K.take (j + 1))).length 0 ∧ Below w4.heap.size w4 wy ∧ gs < wy.heap.size) := by
                  rw [HA2.out, List.length_append]; exact ⟨R2, S2, BY, zy⟩
                clear f0 f1 f2 f3 R1 R2 S1 S2 O2 BX BY zx zy d1 d2
                go_wp2_with fail
                go_roundw
                case rel => exact ⟨j + 1, by omega, by go_num, by show _ ≤ _; omega, HN⟩
                case measure => simp [intOf]; omega
              · have hjk : j = kn := by have := Hj.out; omega
                subst hjk
                have hfull : LB (K.take j) = L := by rw [← HL.out, List.take_of_length_le (Nat.le_of_eq HK.out.1)]
                obtain ⟨R0, S0, B0, zs⟩ := HR.out
                rw [hfull] at R0 S0
                clear HR hfull
                go_wp2_with fail
                refine (rend_any w4.heap.size 0 sr L.length 0 wr R0).mono ?_
                rintro _ wa ⟨rfl, na, hwa⟩
                rw [E1.out]
                have Ra : Rd wa w4.heap.size 0 sr L.length 0 := by rw [hwa]; exact R0.drewN na
                have Sa : Rd wa gs 0 ss L.length 0 := by rw [hwa]; exact S0.drewN na
                have Ba : Below w4.heap.size w4 wa := by rw [hwa]; exact B0.trans (drewN_below _ _ _)
                clear hwa R0 S0 B0 zs
                go_wp2_with fail
                refine (num_any _ _).mono ?_
                rintro e wb ⟨rfl, rfl⟩
                go_wp2_with fail
                refine (rleft_any w4.heap.size 0 sr L.length 0 wb Ra).mono ?_
                rintro _ wc ⟨rfl, nc, hwc⟩
                have hleft : ((8 * sr.size - L.length : Nat) : Int) = 8 * (nb : Int) - (nL : Int) := by rw [Hs1.out, Hn.out.2]; have := Hnb.out; omega
                rw [hleft]
                have Sc : Rd wc gs 0 ss L.length 0 := by rw [hwc]; exact Sa.drewN nc
                have Bc : Below w4.heap.size w4 wc := by rw [hwc]; exact Ba.trans (drewN_below _ _ _)
                have LVc : wc.cell? ⟨w.heap.size, 0 + 121, none⟩ = some (.int .i64 (nL : Int)) := by have := (H4.out.1.below Bc).lenCell; rwa [Hn.out.2] at this
                clear hwc Ra Sa Ba hleft
                have hpos : 0 ≤ 8 * (nb : Int) - (nL : Int) := by have := Hnb.out; omega
                go_wp2_with fail
                refine (wlen_any w.heap.size 0 (nL : Int) _ LVc).mono ?_
                rintro e wd ⟨rfl, rfl⟩
                clear LVc
                go_wp2_with fail
                refine (rend_any gs 0 ss L.length 0 wd Sc).mono ?_
                rintro _ we ⟨rfl, ne, hwe⟩
                rw [E2.out]
                have Be : Below w4.heap.size w4 we := by rw [hwe]; exact Bc.trans (drewN_below _ _ _)
                clear hwe Sc Bc
                go_wp2_with fail
                refine (num_any _ _).mono ?_
                rintro e wf ⟨rfl, rfl⟩
                by_cases hnb0 : nb = 0
                · subst hnb0
                  go_wp2_with fail
                  go_ret
                  exact ⟨rfl, H4.out.2.1.trans (Be.mono (by omega))⟩
                · have hnb1 : ((nb : Int) == 0) = false := by rw [beq_eq_false_iff_ne]; omega
                  obtain ⟨nt, hnt⟩ : ∃ nt : Nat, (nb : Int) - 1 = (nt : Int) := ⟨nb - 1, by omega⟩
                  have hnt2 : nt ≤ nb := by omega
                  go_wp2_with fail
                  have I3 : IsBytes wf (.slice (some ⟨wr0.heap.size, 0, none⟩) nt nb) (bs.take nt) := (isBytes_below H4.out.2.2.1 (Be.mono (Nat.le_refl _))).less nt hnt2
                  refine (from_any wf _ _ I3).mono ?_
                  rintro e wg ⟨rfl, hwg⟩
                  have hbt : (bs.take nt).length = nt := by rw [List.length_take, Hn.out.1]; omega
                  have T1 : Rd wg wf.heap.size 0 (strOf (bs.take nt)) 0 0 := by rw [hwg]; exact rd_new wf _ (by rw [hbt]; omega)
                  have Bg : Below wf.heap.size wf wg := by rw [hwg]; exact (Below.refl _ _).alloc (Nat.le_refl _) _
                  have zg : wf.heap.size < wg.heap.size := block_lt_of_cell T1.text
                  have F3 : Hid (∃ k, rb (strOf (bs.take nt)) = L.take k) := by
                    have h1 := rb_less bs L Hbs.out (by rw [Hn.out.1]; omega)
                    rw [Hn.out.1, show nb - 1 = nt from by omega] at h1
                    exact h1
                  have hs3 : Hid (8 * (strOf (bs.take nt)).size < L.length) := by
                    show _ < _
                    rw [strOf_size, hbt, Hn.out.2]; have := Hnb.out; omega
                  have zf : w4.heap.size ≤ wf.heap.size := Be.size
                  have hcut : Cut wg wf.heap.size 0 (strOf (bs.take nt)) (LB (K.take 0)) := .inl ⟨Nat.zero_le _, T1⟩
                  clear hwg I3 T1 hbt
                  generalize strOf (bs.take nt) = st at *
                  have HT : Hid (Cut wg wf.heap.size 0 st (LB (K.take 0)) ∧ Below w4.heap.size w4 wg ∧ wf.heap.size < wg.heap.size) := ⟨hcut, Be.trans (Bg.mono zf), zg⟩
                  clear hcut Bg Be zg
                  generalize hgt : wf.heap.size = gt at *
                  clear hgt
                  go_wp2_with fail
                  go_loopw [12] (fun t12 wr => ∃ j2 : Nat, j2 ≤ 400 ∧ t12 = .int .i64 j2 ∧ Hid (j2 ≤ j) ∧ Hid (Cut wr gt 0 st (LB (K.take j2)) ∧ Below w4.heap.size w4 wr ∧ gt < wr.heap.size)) (fun t12 _ => 400 - (intOf t12).toNat)
                  case atStart => exact ⟨0, by omega, rfl, Nat.zero_le _, HT⟩
                  case round =>
                    obtain ⟨j2, hj2, rfl, Hj2, HR2⟩ := hrel
                    by_cases hjn2 : j2 < j
                    · obtain ⟨gk, ok, hp, hgk, hcells⟩ := HKat.out (by omega)
                      subst hp
                      obtain ⟨q, hq⟩ : ∃ q, K[j2]? = some q := ⟨K[j2]'(by rw [HK.out.1]; exact hjn2), List.getElem?_eq_getElem _⟩
                      obtain ⟨hF, hx⟩ := HK.out.2 q (List.mem_of_getElem? hq)
                      obtain ⟨c0, c1, c2, c3⟩ := hcells j2 q hq
                      obtain ⟨hA, hA2⟩ := LB_at K j2 q hq
                      rw [HL.out] at hA
                      obtain ⟨T0, B0, zt⟩ := HR2.out
                      have ec : ∀ t, wr.cell? ⟨gk, ok + j2 * 4 + t, none⟩ = wr0.cell? ⟨gk, ok + j2 * 4 + t, none⟩ := fun t => (B0.cell (p := ⟨gk, ok + j2 * 4 + t, none⟩) (by show gk < _; omega)).trans (H4.out.2.2.2.cell (p := ⟨gk, ok + j2 * 4 + t, none⟩) hgk)
                      have e0 := (ec 0).trans c0
                      have e1 := (ec 1).trans c1
                      have e2 := (ec 2).trans c2
                      have e3 := (ec 3).trans c3
                      rw [Nat.add_zero] at e0
                      clear ec c0 c1 c2 c3 HR2
                      obtain ⟨dd, nn, mm, xx⟩ := q
                      simp only at e0 e1 e2 e3 hF hx
                      have hA' : LB (K.take (j2 + 1)) = LB (K.take j2) ++ opB dd mm xx := hA2
                      have HA : Hid (L = LB (K.take j2) ++ opB dd mm xx ++ LB (K.drop (j2 + 1))) := hA
                      have HA2 : Hid (LB (K.take (j2 + 1)) = LB (K.take j2) ++ opB dd mm xx) := hA'
                      clear hA hA2 hA' hcells
                      generalize LB (K.take j2) = A at *
                      generalize LB (K.drop (j2 + 1)) = A2 at *
                      have d3 : ∃ k, rb st = (A ++ opB dd mm xx ++ A2).take k := by rw [← HA.out]; exact F3.out
                      go_wp2_with fail
                      refine (got_cut gt 0 st A A2 dd nn mm xx wr T0 hx hF d3).mono ?_
                      rintro _ wx ⟨⟨vx, rfl⟩, T2, O2⟩
                      have HN : Hid (Cut wx gt 0 st (LB (K.take (j2 + 1))) ∧ Below w4.heap.size w4 wx ∧ gt < wx.heap.size) := by
                        rw [HA2.out]; exact ⟨T2, B0.trans (O2.below zf (by omega)), Nat.lt_of_lt_of_le zt O2.size⟩
                      clear e0 e1 e2 e3 T0 T2 O2 B0 d3 zt
                      go_wp2_with fail
                      go_roundw
                      case rel => exact ⟨j2 + 1, by omega, by go_num, by show _ ≤ _; omega, HN⟩
                      case measure => simp [intOf]; omega
                    · have hjk : j2 = j := by have := Hj2.out; omega
                      subst hjk
                      have hfull : LB (K.take j2) = L := by rw [← HL.out, List.take_of_length_le (Nat.le_of_eq HK.out.1)]
                      obtain ⟨T0, B0, zt⟩ := HR2.out
                      rw [hfull] at T0
                      obtain ⟨at_, T1⟩ : ∃ a, Rd wr gt 0 st a 12 := by
                        rcases T0 with ⟨h1, _⟩ | ⟨_, h1⟩
                        · have := hs3.out; omega
                        · exact h1
                      clear T0 HR2 hfull
                      go_wp2_with fail
                      refine (rend_any gt 0 st at_ 12 wr T1).mono ?_
                      rintro _ wh ⟨rfl, nh, hwh⟩
                      have hE : endE st at_ 12 = 12 := by unfold endE; rw [if_neg (by omega)]
                      rw [hE]
                      have HB : Hid (Below w.heap.size w wh) := by rw [hwh]; exact H4.out.2.1.trans ((B0.mono (by omega)).trans (drewN_below _ _ _))
                      clear hwh T1 B0 hE
                      go_wp2_with fail
                      refine (num_any _ _).mono ?_
                      rintro e wi ⟨rfl, rfl⟩
                      go_wp2_with fail
                      go_ret
                      exact ⟨rfl, HB.out⟩

      · obtain ⟨K, hK, hki, W0, K0, s0, B0⟩ := HS.out
        clear HS
        have hLl : (LB K).length ≤ 80 * kn := by rw [← hK]; exact LB_len K K0.2.1
        have HK : Hid (K.length = kn ∧ (∀ q ∈ K, GoodQ q)) := ⟨hK, K0.2.1⟩
        have HKat : Hid (0 < kn → ∃ gk ok, p = some ⟨gk, ok, none⟩ ∧ gk < wr.heap.size ∧ ∀ j q, K[j]? = some q → wr.cell? ⟨gk, ok + j * 4, none⟩ = some (.int .i64 q.1) ∧ wr.cell? ⟨gk, ok + j * 4 + 1, none⟩ = some (.int .i64 q.2.1) ∧ wr.cell? ⟨gk, ok + j * 4 + 2, none⟩ = some (.int .u64 (q.2.2.2 : Int)) ∧ wr.cell? ⟨gk, ok + j * 4 + 3, none⟩ = some (.int .i64 q.2.2.1)) := fun h => K0.at hK h
        generalize hL : LB K = L at *
        have HL : Hid (LB K = L) := hL
        obtain ⟨bs, hbs⟩ : ∃ bs, packed L = bs := ⟨_, rfl⟩
        have Hbs : Hid (packed L = bs) := hbs
        have hnb : bs.length = (L.length + 7) / 8 := by rw [← hbs, packed_length]
        have hkn : kn ≤ 400 := by omega
        clear hL hbs K0 hK hki
        go_wp2_with fail
        refine (wdone_packed w.heap.size 0 (w.heap.size + 1) wr L W0 s0 (by omega) bs Hbs.out).mono ?_
        rintro e w1 ⟨rfl, G1, B1⟩
        have W1 := W0.below B1
        have I1 := isBytes_row (cap := bs.length) G1
        have z1 := size_lt_of_row G1
        have s1 := Nat.le_trans s0 B1.size
        have C1 := B0.trans (B1.mono (by omega : w.heap.size ≤ wr.heap.size))
        have LV := W1.lenCell
        clear W0 B0 G1
        obtain ⟨nb, hnb1⟩ : ∃ nb, bs.length = nb := ⟨_, rfl⟩
        obtain ⟨nL, hnL1⟩ : ∃ nL, L.length = nL := ⟨_, rfl⟩
        have Hn : Hid (bs.length = nb ∧ L.length = nL) := ⟨hnb1, hnL1⟩
        rw [hnb1] at I1 hnb ⊢
        rw [hnL1] at LV hnb hLl
        clear hnb1 hnL1
        have hq : ((nL : Int) + 7) / 8 = (nb : Int) := by omega
        have Hnb : Hid (nb = (nL + 7) / 8) := hnb
        have hnbb : nb ≤ 4001 := by omega
        clear hnb
        go_wp2_with fail
        refine (num_any _ _).mono ?_
        rintro e w2 ⟨rfl, rfl⟩
        go_wp2_with fail
        refine (wlen_any w.heap.size 0 (nL : Int) _ LV).mono ?_
        rintro e w3 ⟨rfl, rfl⟩
        go_wp2_with fail
        refine (works_any _).mono ?_
        rintro e w4 ⟨rfl, B4⟩
        have H4 : Hid (Wr w4 (w.heap.size + 1) w.heap.size 0 L 0 ∧ Below w.heap.size w w4 ∧ IsBytes w4 (.slice (some ⟨wr.heap.size, 0, none⟩) nb nb) bs ∧ Below wr.heap.size wr w4) := ⟨W1.below B4, C1.trans (B4.mono (by omega : w.heap.size ≤ w3.heap.size)), isBytes_below I1 B4, B1.trans (B4.mono (by omega))⟩
        have s4 := Nat.le_trans s1 B4.size
        have s4r : wr.heap.size < w4.heap.size := Nat.lt_of_lt_of_le z1 B4.size
        clear C1 I1 LV B4 W1 B1 z1
        go_wp2_with fail
        refine (from_any w4 _ _ H4.out.2.2.1).mono ?_
        rintro e w5 ⟨rfl, hw5⟩
        have hbl : bs.length ≤ 1000000000000 := by rw [Hn.out.1]; omega
        have R5 : Rd w5 w4.heap.size 0 (strOf bs) 0 0 := by rw [hw5]; exact rd_new w4 _ hbl
        have B5 : Below w4.heap.size w4 w5 := by rw [hw5]; exact (Below.refl _ _).alloc (Nat.le_refl _) _
        have z5 : w4.heap.size < w5.heap.size := block_lt_of_cell R5.text
        have HI5 : Hid (IsBytes w5 (.slice (some ⟨wr.heap.size, 0, none⟩) nb nb) bs) := isBytes_below H4.out.2.2.1 B5
        have HR5 : Hid (Rd w5 w4.heap.size 0 (strOf bs) 0 0 ∧ Below w4.heap.size w4 w5) := ⟨R5, B5⟩
        clear R5 B5 hw5
        go_wp2_with (at_builtin; refine wpList_append_own _ rfl (.tmp 66) (.tmp 67) 29 rfl w5.heap.size 5 i5 (.int .u8 0) 1 1 Try.underlying29 Hi5.out.1 Hi5.out.2.1 Hi5.out.2.2.1 Hi5.out.2.2.2 rfl (by decide) (.slice (some ⟨w5.heap.size, 0, none⟩) 0 0) 0 [] rfl ?c1 ⟨wr.heap.size, 0, none⟩ nb nb (bytesV bs) rfl ?c2 ?c3 (bytesV_cell bs) ?c4 ?c5 ?c7 ?c6)
        case c1 => exact World.ownsRow_made _ #[] 0 (Nat.le_refl _) (by decide) rfl
        case c2 => rw [Nat.mul_one, ← Hn.out.1]; simp [bytesV]
        case c3 => exact (isBytes_below HI5.out ((Below.refl _ _).alloc (Nat.le_refl _) _)).news.2
        case c4 => unfold maxLen; omega
        case c5 => omega
        case c7 => simp
        case c6 =>
          intro v6 w6 ho6 hg6 _
          have hs6 : w5.heap.size + 1 ≤ w6.heap.size := by have := hg6.size; simp at this; omega
          have B6 : Below w5.heap.size w5 w6 := ((Below.refl _ _).alloc (Nat.le_refl _) _).trans (grown_below hg6 (fun g hg => by simp [Value.ownBlock] at hg; omega) (by simp))
          have HB6 : Hid (Below w5.heap.size w5 w6) := B6
          have HO6 : Hid (w6.ownsRow w5.heap.size 5 1 v6 nb (bytesV bs)) := by first | exact ho6 | simpa using ho6
          clear hg6 ho6 B6
          go_wp2_with (at_builtin; refine wpList_append_lies _ rfl (.tmp 68) (.tmp 69) 29 rfl w5.heap.size 5 i5 (.int .u8 0) 1 1 Try.underlying29 Hi5.out.1 Hi5.out.2.1 Hi5.out.2.2.1 Hi5.out.2.2.2 rfl (by decide) v6 nb (bytesV bs) rfl ?d1 ⟨w6.heap.size, 0, none⟩ 1 1 [.int .u8 0] rfl rfl ?d2 ?d3 (by decide) ?d4 ?d5 ?d7 _ rfl ?d6)
          case d1 => exact HO6.out.alloc _
          case d2 => intro j u hj; exact cell_new1 w6 _ 5 j u hj
          case d3 => intro u hu; simp at hu; subst hu; rfl
          case d4 => unfold maxLen; omega
          case d5 => omega
          case d7 => simp; omega
          case d6 =>
            intro g7 cap7 w7 ho7 hg7 hat7 hlt7
            have B7 : Below w5.heap.size w6 w7 := ((Below.refl _ _).alloc (by omega) _).trans (grown_below hg7 (fun g hg => (HO6.out.lt g hg).1) (by simp; omega))
            have B57 : Below w5.heap.size w5 w7 := HB6.out.trans B7
            have I7 : IsBytes w7 (.slice (some ⟨g7, 0, none⟩) (nb + 1) cap7) (bs ++ [0]) := isBytes_own (base := w5.heap.size) (by simpa [bytesV] using ho7) (by simp [Hn.out.1])
            have s7 : w5.heap.size + 1 ≤ w7.heap.size := by have := hg7.size; simp at this; omega
            clear HB6 HO6 ho7 hg7 hat7 B7
            go_wp2_with fail
            refine (from_any w7 _ _ I7).mono ?_
            rintro e w8 ⟨rfl, hw8⟩
            have S8 : Rd w8 w7.heap.size 0 (strOf (bs ++ [0])) 0 0 := by rw [hw8]; exact rd_new w7 _ (by simp [Hn.out.1]; omega)
            have B8 : Below w7.heap.size w7 w8 := by rw [hw8]; exact (Below.refl _ _).alloc (Nat.le_refl _) _
            have z8 : w7.heap.size < w8.heap.size := block_lt_of_cell S8.text
            have R8 : Rd w8 w4.heap.size 0 (strOf bs) 0 0 := (HR5.out.1.below B57 z5).below B8 (by omega)
            have B48 : Below w4.heap.size w4 w8 := HR5.out.2.trans ((B57.mono (by omega)).trans (B8.mono (by omega)))
            have hsz1 : (strOf bs).size = nb := by rw [strOf_size, Hn.out.1]
            clear hw8 I7 B57 B8 HR5 HI5
            go_wp2_with fail
            refine (rleft_any w4.heap.size 0 (strOf bs) 0 0 w8 R8).mono ?_
            rintro e w9 ⟨rfl, n9, hw9⟩
            have hleft : ((8 * (strOf bs).size - 0 : Nat) : Int) = 8 * (nb : Int) := by rw [hsz1]; omega
            rw [hleft]
            have R9 : Rd w9 w4.heap.size 0 (strOf bs) 0 0 := by rw [hw9]; exact R8.drewN n9
            have S9 : Rd w9 w7.heap.size 0 (strOf (bs ++ [0])) 0 0 := by rw [hw9]; exact S8.drewN n9
            have B49 : Below w4.heap.size w4 w9 := by rw [hw9]; exact B48.trans (drewN_below _ _ _)
            clear hw9 R8 S8 B48 hleft
            have E1 : Hid (endE (strOf bs) L.length 0 = 0) := by show _ = _; rw [← Hbs.out]; exact end_packed L
            have E2 : Hid (endE (strOf (bs ++ [0])) L.length 0 = 14) := endE_more bs L Hbs.out
            have F1 : Hid (∃ Z, rb (strOf bs) = L ++ Z) := rb_same bs L Hbs.out
            have F2 : Hid (∃ Z, rb (strOf (bs ++ [0])) = L ++ Z) := rb_more bs L Hbs.out
            have Hs1 : Hid ((strOf bs).size = nb) := hsz1
            clear hsz1
            generalize strOf bs = sr at *
            generalize strOf (bs ++ [0]) = ss at *
            generalize hgs : w7.heap.size = gs at *
            have hgs4 : w4.heap.size < gs := by omega
            have HI9 : Hid (Rd w9 w4.heap.size 0 sr (LB (K.take 0)).length 0 ∧ Rd w9 gs 0 ss (LB (K.take 0)).length 0 ∧ Below w4.heap.size w4 w9 ∧ gs < w9.heap.size) := ⟨R9, S9, B49, block_lt_of_cell S9.text⟩
            clear R9 S9 B49 z8 hgs hlt7 s7 hs6
            go_wp2_with fail
            generalize hwr0 : wr = wr0 at *
            clear hwr0
            go_loopw [10] (fun t10 wr => ∃ j : Nat, j ≤ 400 ∧ t10 = .int .i64 j ∧ Hid (j ≤ kn) ∧ Hid (Rd wr w4.heap.size 0 sr (LB (K.take j)).length 0 ∧ Rd wr gs 0 ss (LB (K.take j)).length 0 ∧ Below w4.heap.size w4 wr ∧ gs < wr.heap.size)) (fun t10 _ => 400 - (intOf t10).toNat)
            case atStart => exact ⟨0, by omega, rfl, Nat.zero_le _, HI9⟩
            case round =>
              obtain ⟨j, hj, rfl, Hj, HR⟩ := hrel
              by_cases hjn : j < kn
              · obtain ⟨gk, ok, hp, hgk, hcells⟩ := HKat.out (by omega)
                subst hp
                obtain ⟨q, hq⟩ : ∃ q, K[j]? = some q := ⟨K[j]'(by rw [HK.out.1]; exact hjn), List.getElem?_eq_getElem _⟩
                obtain ⟨hF, hx⟩ := HK.out.2 q (List.mem_of_getElem? hq)
                obtain ⟨c0, c1, c2, c3⟩ := hcells j q hq
                obtain ⟨hA, hA2⟩ := LB_at K j q hq
                rw [HL.out] at hA
                obtain ⟨R0, S0, B0, zs⟩ := HR.out
                have ec : ∀ t, wr.cell? ⟨gk, ok + j * 4 + t, none⟩ = wr0.cell? ⟨gk, ok + j * 4 + t, none⟩ := fun t => (B0.cell (p := ⟨gk, ok + j * 4 + t, none⟩) (by show gk < _; omega)).trans (H4.out.2.2.2.cell (p := ⟨gk, ok + j * 4 + t, none⟩) hgk)
                have e0 := (ec 0).trans c0
                have e1 := (ec 1).trans c1
                have e2 := (ec 2).trans c2
                have e3 := (ec 3).trans c3
                rw [Nat.add_zero] at e0
                clear ec c0 c1 c2 c3 HR
                obtain ⟨dd, nn, mm, xx⟩ := q
                simp only at e0 e1 e2 e3 hF hx
                have hA' : LB (K.take (j + 1)) = LB (K.take j) ++ opB dd mm xx := hA2
                have HA : Hid (L = LB (K.take j) ++ opB dd mm xx ++ LB (K.drop (j + 1))) := hA
                have HA2 : Hid (LB (K.take (j + 1)) = LB (K.take j) ++ opB dd mm xx) := hA'
                clear hA hA2 hA' hcells
                generalize LB (K.take j) = A at *
                generalize LB (K.drop (j + 1)) = A2 at *
                have d1 : ∃ rest, (rb sr).drop A.length = opB dd mm xx ++ rest := by
                  obtain ⟨Z, hZ⟩ := F1.out
                  rw [hZ, HA.out, List.append_assoc, List.append_assoc, List.drop_left' rfl]
                  exact ⟨_, rfl⟩
                have d2 : ∃ rest, (rb ss).drop A.length = opB dd mm xx ++ rest := by
                  obtain ⟨Z, hZ⟩ := F2.out
                  rw [hZ, HA.out, List.append_assoc, List.append_assoc, List.drop_left' rfl]
                  exact ⟨_, rfl⟩
                obtain ⟨rest1, d1⟩ := d1
                obtain ⟨rest2, d2⟩ := d2
                go_wp2_with fail
                refine (got_full w4.heap.size 0 sr A.length dd nn mm xx rest1 wr R0 hx hF d1).mono ?_
                rintro _ wx ⟨rfl, R1, O1⟩
                have S1 := S0.other O1 (by omega)
                have ec : ∀ t, wx.cell? ⟨gk, ok + j * 4 + t, none⟩ = wr.cell? ⟨gk, ok + j * 4 + t, none⟩ := fun t => World.cell?_of_block (w := wr) (O1.block gk (by omega) (by omega))
                have f0 := (ec 0).trans e0
                have f1 := (ec 1).trans e1
                have f2 := (ec 2).trans e2
                have f3 := (ec 3).trans e3
                rw [Nat.add_zero] at f0
                have BX := B0.trans (O1.below (Nat.le_refl _) (by omega))
                have zx := Nat.lt_of_lt_of_le zs O1.size
                clear ec e0 e1 e2 e3 O1 B0 zs S0 R0
                go_wp2_with fail
                refine (got_full gs 0 ss A.length dd nn mm xx rest2 wx S1 hx hF d2).mono ?_
                rintro _ wy ⟨rfl, S2, O2⟩
                have R2 := R1.other O2 (by omega)
                have BY := BX.trans (O2.below (by omega : w4.heap.size ≤ gs) (by omega))
                have zy := Nat.lt_of_lt_of_le zx O2.size
                have HN : Hid (Rd wy w4.heap.size 0 sr (LB (K.take (j + 1))).length 0 ∧ Rd wy gs 0 ss (LB (K.take (j + 1))).length 0 ∧ Below w4.heap.size w4 wy ∧ gs < wy.heap.size) := by
                  rw [HA2.out, List.length_append]; exact ⟨R2, S2, BY, zy⟩
                clear f0 f1 f2 f3 R1 R2 S1 S2 O2 BX BY zx zy d1 d2
                go_wp2_with fail
                go_roundw
                case rel => exact ⟨j + 1, by omega, by go_num, by show _ ≤ _; omega, HN⟩
                case measure => simp [intOf]; omega
              · have hjk : j = kn := by have := Hj.out; omega
                subst hjk
                have hfull : LB (K.take j) = L := by rw [← HL.out, List.take_of_length_le (Nat.le_of_eq HK.out.1)]
                obtain ⟨R0, S0, B0, zs⟩ := HR.out
                rw [hfull] at R0 S0
                clear HR hfull
                go_wp2_with fail
                refine (rend_any w4.heap.size 0 sr L.length 0 wr R0).mono ?_
                rintro _ wa ⟨rfl, na, hwa⟩
                rw [E1.out]
                have Ra : Rd wa w4.heap.size 0 sr L.length 0 := by rw [hwa]; exact R0.drewN na
                have Sa : Rd wa gs 0 ss L.length 0 := by rw [hwa]; exact S0.drewN na
                have Ba : Below w4.heap.size w4 wa := by rw [hwa]; exact B0.trans (drewN_below _ _ _)
                clear hwa R0 S0 B0 zs
                go_wp2_with fail
                refine (num_any _ _).mono ?_
                rintro e wb ⟨rfl, rfl⟩
                go_wp2_with fail
                refine (rleft_any w4.heap.size 0 sr L.length 0 wb Ra).mono ?_
                rintro _ wc ⟨rfl, nc, hwc⟩
                have hleft : ((8 * sr.size - L.length : Nat) : Int) = 8 * (nb : Int) - (nL : Int) := by rw [Hs1.out, Hn.out.2]; have := Hnb.out; omega
                rw [hleft]
                have Sc : Rd wc gs 0 ss L.length 0 := by rw [hwc]; exact Sa.drewN nc
                have Bc : Below w4.heap.size w4 wc := by rw [hwc]; exact Ba.trans (drewN_below _ _ _)
                have LVc : wc.cell? ⟨w.heap.size, 0 + 121, none⟩ = some (.int .i64 (nL : Int)) := by have := (H4.out.1.below Bc).lenCell; rwa [Hn.out.2] at this
                clear hwc Ra Sa Ba hleft
                have hpos : 0 ≤ 8 * (nb : Int) - (nL : Int) := by have := Hnb.out; omega
                go_wp2_with fail
                refine (wlen_any w.heap.size 0 (nL : Int) _ LVc).mono ?_
                rintro e wd ⟨rfl, rfl⟩
                clear LVc
                go_wp2_with fail
                refine (rend_any gs 0 ss L.length 0 wd Sc).mono ?_
                rintro _ we ⟨rfl, ne, hwe⟩
                rw [E2.out]
                have Be : Below w4.heap.size w4 we := by rw [hwe]; exact Bc.trans (drewN_below _ _ _)
                clear hwe Sc Bc
                go_wp2_with fail
                refine (num_any _ _).mono ?_
                rintro e wf ⟨rfl, rfl⟩
                by_cases hnb0 : nb = 0
                · subst hnb0
                  go_wp2_with fail
                  go_ret
                  exact ⟨rfl, H4.out.2.1.trans (Be.mono (by omega))⟩
                · have hnb1 : ((nb : Int) == 0) = false := by rw [beq_eq_false_iff_ne]; omega
                  obtain ⟨nt, hnt⟩ : ∃ nt : Nat, (nb : Int) - 1 = (nt : Int) := ⟨nb - 1, by omega⟩
                  have hnt2 : nt ≤ nb := by omega
                  go_wp2_with fail
                  have I3 : IsBytes wf (.slice (some ⟨wr0.heap.size, 0, none⟩) nt nb) (bs.take nt) := (isBytes_below H4.out.2.2.1 (Be.mono (Nat.le_refl _))).less nt hnt2
                  refine (from_any wf _ _ I3).mono ?_
                  rintro e wg ⟨rfl, hwg⟩
                  have hbt : (bs.take nt).length = nt := by rw [List.length_take, Hn.out.1]; omega
                  have T1 : Rd wg wf.heap.size 0 (strOf (bs.take nt)) 0 0 := by rw [hwg]; exact rd_new wf _ (by rw [hbt]; omega)
                  have Bg : Below wf.heap.size wf wg := by rw [hwg]; exact (Below.refl _ _).alloc (Nat.le_refl _) _
                  have zg : wf.heap.size < wg.heap.size := block_lt_of_cell T1.text
                  have F3 : Hid (∃ k, rb (strOf (bs.take nt)) = L.take k) := by
                    have h1 := rb_less bs L Hbs.out (by rw [Hn.out.1]; omega)
                    rw [Hn.out.1, show nb - 1 = nt from by omega] at h1
                    exact h1
                  have hs3 : Hid (8 * (strOf (bs.take nt)).size < L.length) := by
                    show _ < _
                    rw [strOf_size, hbt, Hn.out.2]; have := Hnb.out; omega
                  have zf : w4.heap.size ≤ wf.heap.size := Be.size
                  have hcut : Cut wg wf.heap.size 0 (strOf (bs.take nt)) (LB (K.take 0)) := .inl ⟨Nat.zero_le _, T1⟩
                  clear hwg I3 T1 hbt
                  generalize strOf (bs.take nt) = st at *
                  have HT : Hid (Cut wg wf.heap.size 0 st (LB (K.take 0)) ∧ Below w4.heap.size w4 wg ∧ wf.heap.size < wg.heap.size) := ⟨hcut, Be.trans (Bg.mono zf), zg⟩
                  clear hcut Bg Be zg
                  generalize hgt : wf.heap.size = gt at *
                  clear hgt
                  go_wp2_with fail
                  go_loopw [12] (fun t12 wr => ∃ j2 : Nat, j2 ≤ 400 ∧ t12 = .int .i64 j2 ∧ Hid (j2 ≤ j) ∧ Hid (Cut wr gt 0 st (LB (K.take j2)) ∧ Below w4.heap.size w4 wr ∧ gt < wr.heap.size)) (fun t12 _ => 400 - (intOf t12).toNat)
                  case atStart => exact ⟨0, by omega, rfl, Nat.zero_le _, HT⟩
                  case round =>
                    obtain ⟨j2, hj2, rfl, Hj2, HR2⟩ := hrel
                    by_cases hjn2 : j2 < j
                    · obtain ⟨gk, ok, hp, hgk, hcells⟩ := HKat.out (by omega)
                      subst hp
                      obtain ⟨q, hq⟩ : ∃ q, K[j2]? = some q := ⟨K[j2]'(by rw [HK.out.1]; exact hjn2), List.getElem?_eq_getElem _⟩
                      obtain ⟨hF, hx⟩ := HK.out.2 q (List.mem_of_getElem? hq)
                      obtain ⟨c0, c1, c2, c3⟩ := hcells j2 q hq
                      obtain ⟨hA, hA2⟩ := LB_at K j2 q hq
                      rw [HL.out] at hA
                      obtain ⟨T0, B0, zt⟩ := HR2.out
                      have ec : ∀ t, wr.cell? ⟨gk, ok + j2 * 4 + t, none⟩ = wr0.cell? ⟨gk, ok + j2 * 4 + t, none⟩ := fun t => (B0.cell (p := ⟨gk, ok + j2 * 4 + t, none⟩) (by show gk < _; omega)).trans (H4.out.2.2.2.cell (p := ⟨gk, ok + j2 * 4 + t, none⟩) hgk)
                      have e0 := (ec 0).trans c0
                      have e1 := (ec 1).trans c1
                      have e2 := (ec 2).trans c2
                      have e3 := (ec 3).trans c3
                      rw [Nat.add_zero] at e0
                      clear ec c0 c1 c2 c3 HR2
                      obtain ⟨dd, nn, mm, xx⟩ := q
                      simp only at e0 e1 e2 e3 hF hx
                      have hA' : LB (K.take (j2 + 1)) = LB (K.take j2) ++ opB dd mm xx := hA2
                      have HA : Hid (L = LB (K.take j2) ++ opB dd mm xx ++ LB (K.drop (j2 + 1))) := hA
                      have HA2 : Hid (LB (K.take (j2 + 1)) = LB (K.take j2) ++ opB dd mm xx) := hA'
                      clear hA hA2 hA' hcells
                      generalize LB (K.take j2) = A at *
                      generalize LB (K.drop (j2 + 1)) = A2 at *
                      have d3 : ∃ k, rb st = (A ++ opB dd mm xx ++ A2).take k := by rw [← HA.out]; exact F3.out
                      go_wp2_with fail
                      refine (got_cut gt 0 st A A2 dd nn mm xx wr T0 hx hF d3).mono ?_
                      rintro _ wx ⟨⟨vx, rfl⟩, T2, O2⟩
                      have HN : Hid (Cut wx gt 0 st (LB (K.take (j2 + 1))) ∧ Below w4.heap.size w4 wx ∧ gt < wx.heap.size) := by
                        rw [HA2.out]; exact ⟨T2, B0.trans (O2.below zf (by omega)), Nat.lt_of_lt_of_le zt O2.size⟩
                      clear e0 e1 e2 e3 T0 T2 O2 B0 d3 zt
                      go_wp2_with fail
                      go_roundw
                      case rel => exact ⟨j2 + 1, by omega, by go_num, by show _ ≤ _; omega, HN⟩
                      case measure => simp [intOf]; omega
                    · have hjk : j2 = j := by have := Hj2.out; omega
                      subst hjk
                      have hfull : LB (K.take j2) = L := by rw [← HL.out, List.take_of_length_le (Nat.le_of_eq HK.out.1)]
                      obtain ⟨T0, B0, zt⟩ := HR2.out
                      rw [hfull] at T0
                      obtain ⟨at_, T1⟩ : ∃ a, Rd wr gt 0 st a 12 := by
                        rcases T0 with ⟨h1, _⟩ | ⟨_, h1⟩
                        · have := hs3.out; omega
                        · exact h1
                      clear T0 HR2 hfull
                      go_wp2_with fail
                      refine (rend_any gt 0 st at_ 12 wr T1).mono ?_
                      rintro _ wh ⟨rfl, nh, hwh⟩
                      have hE : endE st at_ 12 = 12 := by unfold endE; rw [if_neg (by omega)]
                      rw [hE]
                      have HB : Hid (Below w.heap.size w wh) := by rw [hwh]; exact H4.out.2.1.trans ((B0.mono (by omega)).trans (drewN_below _ _ _))
                      clear hwh T1 B0 hE
                      go_wp2_with fail
                      refine (num_any _ _).mono ?_
                      rintro e wi ⟨rfl, rfl⟩
                      go_wp2_with fail
                      go_ret
                      exact ⟨rfl, HB.out⟩


end Go.Proofs.Ytpiiagjfimdflaa

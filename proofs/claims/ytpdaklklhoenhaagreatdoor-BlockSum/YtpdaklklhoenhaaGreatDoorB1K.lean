/- The law's own works() is true. -/
import Derived.Test.YtpdaklklhoenhaaGreatDoorB1G
import Derived.Test.YtpdaklklhoenhaaGreatDoorB1L
import Derived.Laws.CopyOwn
import Derived.Deep.RegionLaw
/- The contract of a Reader's Zig. -/
namespace Go.Proofs.YtpdaklklhoenhaaGreatDoor
open Go.RowKit
open M
set_option linter.unusedVariables false

/-- The number whose Zig is the Var of x. -/
def zag (x : Nat) : Int := if x % 2 = 1 then -1 - ((x / 2 : Nat) : Int) else ((x / 2 : Nat) : Int)

theorem zag_zig (y : Int) : zag (zig y) = y := by
  unfold zag zig; split <;> split <;> omega
theorem zig_zag (x : Nat) : zig (zag x) = x := by
  unfold zag zig; split <;> split <;> omega

theorem i64_xor_ones (a : Nat) (ha : a < 9223372036854775808) : bits .xor .i64 (a : Int) (-1) = -1 - (a : Int) := by
  show IntKind.i64.wrap ((BitVec.ofInt 64 (a : Int) ^^^ BitVec.ofInt 64 (-1)).toNat : Int) = _
  have h1 : BitVec.ofInt 64 (-1) = BitVec.allOnes 64 := by decide
  rw [h1, BitVec.xor_allOnes, BitVec.toNat_not, ofInt_u64 a (by omega)]
  simp [IntKind.wrap, IntKind.bits, IntKind.signed]
  omega

theorem i64_xor_zero (a : Nat) (ha : a < 9223372036854775808) : bits .xor .i64 (a : Int) 0 = (a : Int) := by
  show IntKind.i64.wrap ((BitVec.ofInt 64 (a : Int) ^^^ BitVec.ofInt 64 0).toNat : Int) = _
  have h1 : BitVec.ofInt 64 0 = 0#64 := by decide
  rw [h1, BitVec.xor_zero, ofInt_u64 a (by omega)]
  simp [IntKind.wrap, IntKind.bits, IntKind.signed]
  omega

theorem zag_xor (x : Nat) (hx : x < 18446744073709551616) : bits BinOp.xor IntKind.i64 ((x : Int) / 2) (wrap64 (-wrap64 (bits BinOp.and IntKind.u64 (x : Int) 1))) = zag x := by
  have h1 := bits_mask .u64 64 (by decide) wraps_u64 1 (by omega) (x : Int) (by omega) (by omega)
  have h2 : bits BinOp.and IntKind.u64 (x : Int) 1 = (x : Int) % 2 := by simpa using h1
  have e : (x : Int) / 2 = ((x / 2 : Nat) : Int) := by omega
  rw [h2, e]
  unfold zag
  by_cases ho : x % 2 = 1
  · have h3 : wrap64 (-wrap64 ((x : Int) % 2)) = -1 := by unfold wrap64; omega
    rw [h3, i64_xor_ones _ (by omega), if_pos ho]
  · have h3 : wrap64 (-wrap64 ((x : Int) % 2)) = 0 := by unfold wrap64; omega
    rw [h3, i64_xor_zero _ (by omega), if_neg ho]

theorem rzig_of (b off : Nat) (w : World) (x : Nat) (hx : x < 18446744073709551616) (R : World → Prop) (h : Calls Tryz.prog 139 #[.pointer (some ⟨b, off, none⟩)] w fun e w' => e = .returned (.int .u64 (x : Int)) ∧ R w') :
    Calls Tryz.prog 143 #[.pointer (some ⟨b, off, none⟩)] w fun e w' => e = .returned (.int .i64 (zag x)) ∧ R w' := by
  have H : Hid (Calls Tryz.prog 139 #[.pointer (some ⟨b, off, none⟩)] w fun e w' => e = .returned (.int .u64 (x : Int)) ∧ R w') := h
  clear h
  go_enter Tryz.func143, Tryz.ntmps143
  go_wp2_with fail
  refine Calls.mono H.out ?_
  rintro e w1 ⟨rfl, hr⟩
  go_wp2_with fail
  go_ret
  exact ⟨by rw [← zag_xor x hx]; rfl, hr⟩

end Go.Proofs.YtpdaklklhoenhaaGreatDoor

/- The contract of a Writer's Done, where nothing has been refused. -/
namespace Go.Proofs.YtpdaklklhoenhaaGreatDoor
open Go.RowKit
open M
set_option linter.unusedVariables false
set_option linter.unusedSimpArgs false

/-- Bytes as values. -/
def bytesV (bs : List Nat) : List Value := bs.map fun (n : Nat) => Value.int .u8 (n : Int)

@[simp] theorem bytesV_length (bs : List Nat) : (bytesV bs).length = bs.length := by simp [bytesV]

theorem make_bytes (c : Nat) (h : c ≤ 281474976710656) (w : World) :
    (Instr.makeSlice 23 (.int .i64 (c : Int)) (.int .i64 (c : Int))).run Tryz.prog w = .ok (.slice (some ⟨w.heap.size, 0, none⟩) c c) (w.alloc (.cells (List.replicate c (Value.int .u8 0)).toArray 5)) := by
  have hz : (Tryz.prog.info? 5).bind (·.zero) = some (.int .u8 0) := by kernel_rfl
  have hs : (Tryz.prog.info? 5).map (·.size) = some 1 := by kernel_rfl
  have hb : (Tryz.prog.info? 5).map (·.bytes) = some 1 := by kernel_rfl
  cases hi : Tryz.prog.info? 5 with
  | none => simp [hi] at hs
  | some i =>
    simp only [hi, Option.bind_some, Option.map_some, Option.some.injEq] at hz hs hb
    rw [run_make w 23 5 i _ Tryz.underlying23 hi hz .i64 .i64 (c : Int) (c : Int) (by omega) (by omega) (by rw [hb]; omega) (by omega)]
    have e : madeCells (Value.int .u8 0).cells ((c : Int).toNat * i.size) = (List.replicate c (Value.int .u8 0)).toArray := by
      rw [hs]
      apply Array.ext
      · simp [madeCells]
      · intro j h1 h2
        simp [madeCells, Value.cells, Nat.mod_one]
    rw [e]; simp

theorem splice_get (cur cs : List Value) (o i : Nat) (h : o + cs.length ≤ cur.length) :
    (splice cur o cs)[i]? = if i < o then cur[i]? else if i < o + cs.length then cs[i - o]? else cur[i]? := by
  unfold splice
  by_cases h1 : i < o
  · rw [if_pos h1, List.getElem?_append_left (by simp; omega), List.getElem?_take_of_lt h1]
  · rw [if_neg h1, List.getElem?_append_right (by simp; omega), List.length_take, Nat.min_eq_left (by omega)]
    by_cases h2 : i < o + cs.length
    · rw [if_pos h2, List.getElem?_append_left (by omega)]
    · rw [if_neg h2, List.getElem?_append_right (by omega), List.getElem?_drop]
      congr 1; omega

set_option maxRecDepth 100000 in
set_option maxHeartbeats 4000000 in
theorem wdone_any (b off lo : Nat) (w : World) (l : List Bool) (hW : Wr w lo b off l 0) (hlo : lo ≤ w.heap.size) (hlen : l.length < 1000000000000) :
    Calls Tryz.prog 50 #[.pointer (some ⟨b, off, none⟩)] w fun e w' => e = .returned (.tuple #[.slice (some ⟨w.heap.size, 0, none⟩) ((l.length + 7) / 8) ((l.length + 7) / 8), .int .i64 0]) ∧
      w'.heap[w.heap.size]? = some (.cells (bytesV (packed l)).toArray 5 (0, 0)) ∧ Below w.heap.size w w' := by
  obtain ⟨p, hR, hC⟩ := hW
  have h1 := hR.full
  have h2 := hR.len
  have h3 := hR.err
  have hbs : b < w.heap.size := block_lt_of_cell h1
  have hsz5 : (Tryz.prog.info? 5).map (·.size) = some 1 := by kernel_rfl
  generalize hc : (l.length + 7) / 8 = c
  have Hc : Hid ((l.length + 7) / 8 = c) := hc
  clear hc
  have hc1 : ((l.length : Int) + 7) / 8 = (c : Int) := by have := Hc.out; omega
  have hmk := make_bytes c (by have := Hc.out; omega)
  obtain ⟨Z, hZ⟩ : ∃ Z, Z = List.replicate c (Value.int .u8 0) := ⟨_, rfl⟩
  rw [← hZ] at hmk
  have hZl : Z.length = c := by rw [hZ]; simp
  have HZl : Hid (Z.length = c) := hZl
  clear hZ hZl
  obtain ⟨k0, hk0⟩ : ∃ k0, k0 = l.length / 960 := ⟨_, rfl⟩
  have hat : (l.length : Int) / 960 * 120 = ((120 * k0 : Nat) : Int) := by omega
  obtain ⟨a0, ha0⟩ : ∃ a0, a0 = 120 * k0 := ⟨_, rfl⟩
  rw [← ha0] at hat
  have Hk0 : Hid (k0 = l.length / 960) := hk0
  have Ha0 : Hid (a0 = 120 * k0) := ha0
  have hac : a0 ≤ c := by have := Hc.out; omega
  have hca : c - a0 ≤ 120 := by have := Hc.out; omega
  clear hk0 ha0
  -- the bytes behind the full chunks
  obtain ⟨cs, hcsl, hcsv, hcs1, hcsr⟩ : ∃ cs : List Value, cs.length = Nat.min 120 (c - a0) ∧ Hid (∀ j, j < c - a0 → cs[j]? = some (.int .u8 (byteAt l (a0 + j)))) ∧ (∀ v ∈ cs, v.oneCell' = true) ∧ Hid (∀ j v, cs[j]? = some v → w.cell? ⟨b, off + 1 + j, none⟩ = some v) := by
    refine ⟨(List.range (c - a0)).map fun (j : Nat) => Value.int .u8 (byteAt l (a0 + j) : Int), ?_, fun j hj => ?_, fun v hv => ?_, fun j v hv => ?_⟩
    · simp only [List.length_map, List.length_range]; exact (Nat.min_eq_right hca).symm
    · simp [hj]
    · simp at hv; obtain ⟨j, _, rfl⟩ := hv; rfl
    · rw [List.getElem?_map, Option.map_eq_some_iff] at hv
      obtain ⟨i, hi, rfl⟩ := hv
      rw [List.getElem?_eq_some_iff] at hi
      obtain ⟨hi, rfl⟩ := hi
      simp at hi ⊢
      have := hR.last j (by omega)
      rw [this, Ha0.out, Hk0.out]
  have Hcsl : Hid (cs.length = Nat.min 120 (c - a0)) := hcsl
  clear hcsl
  have hcl : cs.length = c - a0 := by rw [Hcsl.out]; exact Nat.min_eq_right hca
  have Hcl : Hid (cs.length = c - a0) := hcl
  clear hcl
  have hg1 : Hid ((w.alloc (.cells Z.toArray 5)).drew.heap[w.heap.size]? = some (.cells Z.toArray 5 (0, 0))) := heap_alloc_new _ _
  have hB1 : Below w.heap.size w (w.alloc (.cells Z.toArray 5)).drew := ((Below.refl _ _).alloc (Nat.le_refl _) _).drew
  obtain ⟨o2, ho2⟩ : ∃ o2 : Nat, Hid ((c = a0 → o2 = 0) ∧ (c ≠ a0 → o2 = a0)) := ⟨if c = a0 then 0 else a0, by constructor <;> intro h <;> simp [h]⟩
  · go_enter Tryz.func50, Tryz.ntmps50
    go_wp2_with fail
    refine Code.wp_mono (Q := fun e a w' => e = .normal ∧ a = ⟨#[.pointer (some ⟨b, off, none⟩), undef, .slice none 0 0, .int .i64 0, .slice (some ⟨w.heap.size, 0, none⟩) c c, .int .i64 (a0 : Int), undef, .pointer (some ⟨b, off, none⟩), .pointer (some ⟨b, off, none⟩), .pointer (some ⟨b, off + 122, none⟩), .int .i64 0, .bool false, undef, undef, undef, undef, .pointer (some ⟨b, off, none⟩), .pointer (some ⟨b, off, none⟩), .pointer (some ⟨b, off + 121, none⟩), .int .i64 (l.length : Int), .int .i64 ((l.length : Int) + 7), .int .i64 (((l.length : Int) + 7) / 8), .slice (some ⟨w.heap.size, 0, none⟩) c c, .pointer (some ⟨b, off, none⟩), .pointer (some ⟨b, off, none⟩), .pointer (some ⟨b, off + 121, none⟩), .int .i64 (l.length : Int), .int .i64 ((l.length : Int) / 960), .int .i64 (a0 : Int), .slice (some ⟨w.heap.size, 0, none⟩) c c, .int .i64 (a0 : Int), .slice (some ⟨w.heap.size, o2, none⟩) (c - a0) (c - a0), .pointer (some ⟨b, off, none⟩), .pointer (some ⟨b, off, none⟩), .pointer (some ⟨b, off + 1, none⟩), .slice (some ⟨b, off + 1, none⟩) 120 120, .int .i64 (cs.length : Int), undef, undef, undef, undef, undef, undef, undef, undef, undef, undef, undef, undef, undef, undef, undef, undef, undef, undef, undef, undef, undef], []⟩ ∧ Hid (w'.heap[w.heap.size]? = some (.cells (splice Z a0 cs).toArray 5 (0, 0))) ∧ Below w.heap.size w w') ?h1 ?h2
    case h2 =>
      refine wp_region_any (by kernel_rfl) ?_
      change wpAny _ _ _ _ _ _ _ (World.drew _)
      refine wpAny_take (i := 0) (v := .slice (some ⟨w.heap.size, 0, none⟩) c c) rfl (by kernel_rfl) (by kernel_rfl) (by kernel_rfl) (fun _ _ _ h => absurd h.1 (by simp)) (Or.inl ⟨by rfl, ?_⟩) ?_
      · intro w; go_simp
      refine wpAny_take (i := 1) (v := .int .i64 (a0 : Int)) rfl (by kernel_rfl) (by kernel_rfl) (by kernel_rfl) (fun _ _ _ h => absurd h.1 (by simp)) (Or.inl ⟨by rfl, ?_⟩) ?_
      · intro w; go_simp
      refine wpAny_take (i := 2) (v := .slice (some ⟨w.heap.size, o2, none⟩) (c - a0) (c - a0)) rfl (by kernel_rfl) (by kernel_rfl) (by kernel_rfl) (fun _ _ _ h => absurd h.1 (by simp)) (Or.inl ⟨by rfl, ?_⟩) ?_
      · intro w; go_simp; have h2 := ho2.out; by_cases hca0 : c = a0 <;> simp [hca0] <;> omega
      refine wpAny_take (i := 3) (v := .pointer (some ⟨b, off, none⟩)) rfl (by kernel_rfl) (by kernel_rfl) (by kernel_rfl) (fun _ _ _ h => absurd h.1 (by simp)) (Or.inl ⟨by rfl, ?_⟩) ?_
      · intro w; go_simp
      refine wpAny_take (i := 4) (v := .pointer (some ⟨b, off, none⟩)) rfl (by kernel_rfl) (by kernel_rfl) (by kernel_rfl) (fun _ _ _ h => absurd h.1 (by simp)) (Or.inl ⟨by rfl, ?_⟩) ?_
      · intro w; go_simp
      refine wpAny_take (i := 5) (v := .pointer (some ⟨b, off + 1, none⟩)) rfl (by kernel_rfl) (by kernel_rfl) (by kernel_rfl) (fun _ _ _ h => absurd h.1 (by simp)) (Or.inl ⟨by rfl, ?_⟩) ?_
      · intro w; go_simp
      refine wpAny_take (i := 6) (v := .slice (some ⟨b, off + 1, none⟩) 120 120) rfl (by kernel_rfl) (by kernel_rfl) (by kernel_rfl) (fun _ _ _ h => absurd h.1 (by simp)) (Or.inl ⟨by rfl, ?_⟩) ?_
      · intro w; go_simp
      change wpAny _ _ _ _ _ _ ⟨#[.pointer (some ⟨b, off, none⟩), undef, .slice none 0 0, .int .i64 0, .slice (some ⟨w.heap.size, 0, none⟩) c c, .int .i64 (a0 : Int), undef, .pointer (some ⟨b, off, none⟩), .pointer (some ⟨b, off, none⟩), .pointer (some ⟨b, off + 122, none⟩), .int .i64 0, .bool false, undef, undef, undef, undef, .pointer (some ⟨b, off, none⟩), .pointer (some ⟨b, off, none⟩), .pointer (some ⟨b, off + 121, none⟩), .int .i64 (l.length : Int), .int .i64 ((l.length : Int) + 7), .int .i64 (((l.length : Int) + 7) / 8), .slice (some ⟨w.heap.size, 0, none⟩) c c, .pointer (some ⟨b, off, none⟩), .pointer (some ⟨b, off, none⟩), .pointer (some ⟨b, off + 121, none⟩), .int .i64 (l.length : Int), .int .i64 ((l.length : Int) / 960), .int .i64 (a0 : Int), .slice (some ⟨w.heap.size, 0, none⟩) c c, .int .i64 (a0 : Int), .slice (some ⟨w.heap.size, o2, none⟩) (c - a0) (c - a0), .pointer (some ⟨b, off, none⟩), .pointer (some ⟨b, off, none⟩), .pointer (some ⟨b, off + 1, none⟩), .slice (some ⟨b, off + 1, none⟩) 120 120, undef, undef, undef, undef, undef, undef, undef, undef, undef, undef, undef, undef, undef, undef, undef, undef, undef, undef, undef, undef, undef, undef], []⟩ _
      refine wpAny_ready (rs := [7]) (by kernel_rfl) (by simp) ?_
      refine AllReady.cons rfl (fun K hK => ?_) AllReady.nil
      refine step_copy_splice rfl _ _ 23 23 rfl 5 Tryz.underlying23 hsz5 _ _ _ _ _ _ rfl rfl w.heap.size a0 Z 5 hg1.out cs Hcsl.out (fun hp => ⟨?_, _, rfl, fun j v hv => ?_⟩) ?_ hcs1 w.heap.size w hB1 (Nat.le_refl _) ?_
      · rw [ho2.out.2 (by rw [Hcl.out] at hp; omega)]
      · rw [Addr.add_mid]
        exact (World.cell?_of_block (w := w) (w' := w.alloc (.cells Z.toArray 5)) (a := ⟨b, off + 1 + j, none⟩) (Below.heap_alloc w _ b hbs)).trans (hcsr.out j v hv)
      · rw [Hcl.out, HZl.out]; omega
      · intro w2 hg2 hB2
        refine hK _ _ ?_
        clear hK K
        refine wpAny_done (by kernel_rfl) ?_ _
        exact ⟨rfl, rfl, hg2, hB2⟩
    case h1 =>
      rintro e a w2 ⟨rfl, rfl, hg2, hB2⟩
      have d1 : w2.cell? ⟨b, off, none⟩ = some (.pointer p) := (hB2.cell (p := ⟨b, off, none⟩) hbs).trans h1
      have hcur : Hid ((splice Z a0 cs).length = c ∧ ∀ i, 120 * k0 ≤ i → i < c → (splice Z a0 cs)[i]? = some (.int .u8 (byteAt l i))) := by
        have e0 := Ha0.out
        refine ⟨by rw [length_splice _ _ _ (by rw [Hcl.out, HZl.out]; omega)]; exact HZl.out, fun i hi1 hi2 => ?_⟩
        rw [splice_get _ _ _ _ (by rw [Hcl.out, HZl.out]; omega), if_neg (by omega), if_pos (by rw [Hcl.out]; omega), hcsv.out _ (by omega), show a0 + (i - a0) = i from by omega]
      have hC0 : Hid (Chain w lo l k0 p) := by rw [Hk0.out]; exact hC
      clear hC hR h1 h2 h3 hg1 hB1 hcsr hcsv hcs1
      go_wp2_with fail
      go_loopw [5, 6] (fun t6 t7 wr => ∃ (k a1 : Nat) (q : Option Addr) (cur : List Value), Hid (a1 = 120 * k ∧ k ≤ k0) ∧ t6 = .int .i64 a1 ∧ t7 = .pointer q ∧ Hid (Chain w lo l k q) ∧ Hid (cur.length = c ∧ ∀ i, 120 * k ≤ i → i < c → cur[i]? = some (.int .u8 (byteAt l i))) ∧
        Hid (wr.heap[w.heap.size]? = some (.cells cur.toArray 5 (0, 0))) ∧ Below w.heap.size w wr) (fun t6 _ _ => (intOf t6).toNat)
      case atStart => exact ⟨k0, a0, p, _, ⟨Ha0.out, Nat.le_refl _⟩, rfl, rfl, hC0, hcur, hg2, hB2⟩
      case round =>
        obtain ⟨k, a1, q, cur, hk, rfl, rfl, hCk, hcu, hgr, hBr⟩ := hrel
        cases k with
        | zero =>
          obtain rfl : q = none := hCk.out
          go_wp2_with fail
          go_ret2
          refine ⟨rfl, ?_, hBr⟩
          rw [hgr.out]
          congr 3
          apply List.ext_getElem?
          intro i
          by_cases hi : i < c
          · rw [hcu.out.2 i (by omega) hi]
            have hi' : i < (l.length + 7) / 8 := by rw [Hc.out]; exact hi
            simp [bytesV, packed, hi']
          · rw [List.getElem?_eq_none (by rw [hcu.out.1]; omega), List.getElem?_eq_none (by rw [bytesV_length, packed_length, Hc.out]; omega)]
        | succ k =>
          obtain ⟨c', q', rfl, hc', hK', hC'⟩ := hCk.out
          clear hCk
          obtain ⟨a2, ha2⟩ : ∃ a2, a2 = 120 * k := ⟨_, rfl⟩
          have Ha2 : Hid (a2 = 120 * k) := ha2
          clear ha2
          have hsub : (a1 : Int) - 120 = (a2 : Int) := by have := hk.out; have := Ha2.out; omega
          have ha1c : a2 + 120 ≤ c := by have := hk.out; have := Ha2.out; have := Hk0.out; have := Hc.out; omega
          have hle2 : a2 ≤ c := by omega
          have hne2 : ¬ c = a2 := by omega
          have hbd : a1 ≤ 1000000000000 := by have := hk.out; have := Hk0.out; omega
          obtain ⟨cs2, h2l, h2v, h21, h2r⟩ : ∃ cs2 : List Value, Hid (cs2.length = Nat.min 120 (c - a2) ∧ cs2.length = 120) ∧ Hid (∀ j, j < 120 → cs2[j]? = some (.int .u8 (byteAt l (a2 + j)))) ∧ (∀ v ∈ cs2, v.oneCell' = true) ∧ Hid (∀ j v, cs2[j]? = some v → w.cell? ⟨c', 1 + j, none⟩ = some v) := by
            refine ⟨(List.range 120).map fun (j : Nat) => Value.int .u8 (byteAt l (a2 + j) : Int), ⟨?_, by simp⟩, fun j hj => ?_, fun v hv => ?_, fun j v hv => ?_⟩
            · simp only [List.length_map, List.length_range]; exact (Nat.min_eq_left (by omega)).symm
            · simp [hj]
            · simp at hv; obtain ⟨j, _, rfl⟩ := hv; rfl
            · rw [List.getElem?_map, Option.map_eq_some_iff] at hv
              obtain ⟨i, hi, rfl⟩ := hv
              rw [List.getElem?_eq_some_iff] at hi
              obtain ⟨hi, rfl⟩ := hi
              simp at hi ⊢
              have := hK'.2 j hi
              rw [this, Ha2.out]
          have hc'w : c' < w.heap.size := hK'.lt
          have hcell0 : w.cell? ⟨c', 0, none⟩ = some (.pointer q') := hK'.1
          have hgr' : Hid (wr.drew.heap[w.heap.size]? = some (.cells cur.toArray 5 (0, 0))) := hgr.out
          have hBr' : Below w.heap.size w wr.drew := hBr.drew
          clear hK'
          go_wp2_with fail
          refine Code.wp_mono (Q := fun e a w' => e = .normal ∧ a = ⟨#[.pointer (some ⟨b, off, none⟩), undef, .slice none 0 0, .int .i64 0, .slice (some ⟨w.heap.size, 0, none⟩) c c, .int .i64 (a2 : Int), .pointer (some ⟨c', 0, none⟩), .pointer (some ⟨b, off, none⟩), .pointer (some ⟨b, off, none⟩), .pointer (some ⟨b, off + 122, none⟩), .int .i64 0, .bool false, undef, undef, undef, undef, .pointer (some ⟨b, off, none⟩), .pointer (some ⟨b, off, none⟩), .pointer (some ⟨b, off + 121, none⟩), .int .i64 (l.length : Int), .int .i64 ((l.length : Int) + 7), .int .i64 (((l.length : Int) + 7) / 8), .slice (some ⟨w.heap.size, 0, none⟩) c c, .pointer (some ⟨b, off, none⟩), .pointer (some ⟨b, off, none⟩), .pointer (some ⟨b, off + 121, none⟩), .int .i64 (l.length : Int), .int .i64 ((l.length : Int) / 960), .int .i64 (a0 : Int), .slice (some ⟨w.heap.size, 0, none⟩) c c, .int .i64 (a0 : Int), .slice (some ⟨w.heap.size, o2, none⟩) (c - a0) (c - a0), .pointer (some ⟨b, off, none⟩), .pointer (some ⟨b, off, none⟩), .pointer (some ⟨b, off + 1, none⟩), .slice (some ⟨b, off + 1, none⟩) 120 120, .int .i64 (cs.length : Int), .pointer (some ⟨b, off, none⟩), .pointer (some ⟨b, off, none⟩), .pointer (some ⟨b, off, none⟩), .pointer p, .pointer (some ⟨c', 0, none⟩), .bool true, u43, u44, u45, u46, .int .i64 (a1 : Int), .int .i64 (a2 : Int), .slice (some ⟨w.heap.size, 0, none⟩) c c, .int .i64 (a2 : Int), .slice (some ⟨w.heap.size, a2, none⟩) (c - a2) (c - a2), .pointer (some ⟨c', 0, none⟩), .pointer (some ⟨c', 0, none⟩), .pointer (some ⟨c', 1, none⟩), .slice (some ⟨c', 1, none⟩) 120 120, .int .i64 (cs2.length : Int), undef], []⟩ ∧ Hid (w'.heap[w.heap.size]? = some (.cells (splice cur a2 cs2).toArray 5 (0, 0))) ∧ Below w.heap.size w w') ?g1 ?g2
          case g2 =>
            refine wp_region_any (by kernel_rfl) ?_
            change wpAny _ _ _ _ _ _ _ (World.drew _)
            refine wpAny_take (i := 0) (v := .slice (some ⟨w.heap.size, 0, none⟩) c c) rfl (by kernel_rfl) (by kernel_rfl) (by kernel_rfl) (fun _ _ _ h => absurd h.1 (by simp)) (Or.inl ⟨by rfl, ?_⟩) ?_
            · intro w; go_simp
            refine wpAny_take (i := 1) (v := .int .i64 (a2 : Int)) rfl (by kernel_rfl) (by kernel_rfl) (by kernel_rfl) (fun _ _ _ h => absurd h.1 (by simp)) (Or.inl ⟨by rfl, ?_⟩) ?_
            · intro w; go_simp
            refine wpAny_take (i := 2) (v := .slice (some ⟨w.heap.size, a2, none⟩) (c - a2) (c - a2)) rfl (by kernel_rfl) (by kernel_rfl) (by kernel_rfl) (fun _ _ _ h => absurd h.1 (by simp)) (Or.inl ⟨by rfl, ?_⟩) ?_
            · intro w; go_simp
            refine wpAny_take (i := 3) (v := .pointer (some ⟨c', 0, none⟩)) rfl (by kernel_rfl) (by kernel_rfl) (by kernel_rfl) (fun _ _ _ h => absurd h.1 (by simp)) (Or.inl ⟨by rfl, ?_⟩) ?_
            · intro w; go_simp
            refine wpAny_take (i := 4) (v := .pointer (some ⟨c', 0, none⟩)) rfl (by kernel_rfl) (by kernel_rfl) (by kernel_rfl) (fun _ _ _ h => absurd h.1 (by simp)) (Or.inl ⟨by rfl, ?_⟩) ?_
            · intro w; go_simp
            refine wpAny_take (i := 5) (v := .pointer (some ⟨c', 1, none⟩)) rfl (by kernel_rfl) (by kernel_rfl) (by kernel_rfl) (fun _ _ _ h => absurd h.1 (by simp)) (Or.inl ⟨by rfl, ?_⟩) ?_
            · intro w; go_simp
            refine wpAny_take (i := 6) (v := .slice (some ⟨c', 1, none⟩) 120 120) rfl (by kernel_rfl) (by kernel_rfl) (by kernel_rfl) (fun _ _ _ h => absurd h.1 (by simp)) (Or.inl ⟨by rfl, ?_⟩) ?_
            · intro w; go_simp
            change wpAny _ _ _ _ _ _ ⟨#[.pointer (some ⟨b, off, none⟩), undef, .slice none 0 0, .int .i64 0, .slice (some ⟨w.heap.size, 0, none⟩) c c, .int .i64 (a2 : Int), .pointer (some ⟨c', 0, none⟩), .pointer (some ⟨b, off, none⟩), .pointer (some ⟨b, off, none⟩), .pointer (some ⟨b, off + 122, none⟩), .int .i64 0, .bool false, undef, undef, undef, undef, .pointer (some ⟨b, off, none⟩), .pointer (some ⟨b, off, none⟩), .pointer (some ⟨b, off + 121, none⟩), .int .i64 (l.length : Int), .int .i64 ((l.length : Int) + 7), .int .i64 (((l.length : Int) + 7) / 8), .slice (some ⟨w.heap.size, 0, none⟩) c c, .pointer (some ⟨b, off, none⟩), .pointer (some ⟨b, off, none⟩), .pointer (some ⟨b, off + 121, none⟩), .int .i64 (l.length : Int), .int .i64 ((l.length : Int) / 960), .int .i64 (a0 : Int), .slice (some ⟨w.heap.size, 0, none⟩) c c, .int .i64 (a0 : Int), .slice (some ⟨w.heap.size, o2, none⟩) (c - a0) (c - a0), .pointer (some ⟨b, off, none⟩), .pointer (some ⟨b, off, none⟩), .pointer (some ⟨b, off + 1, none⟩), .slice (some ⟨b, off + 1, none⟩) 120 120, .int .i64 (cs.length : Int), .pointer (some ⟨b, off, none⟩), .pointer (some ⟨b, off, none⟩), .pointer (some ⟨b, off, none⟩), .pointer p, .pointer (some ⟨c', 0, none⟩), .bool true, u43, u44, u45, u46, .int .i64 (a1 : Int), .int .i64 (a2 : Int), .slice (some ⟨w.heap.size, 0, none⟩) c c, .int .i64 (a2 : Int), .slice (some ⟨w.heap.size, a2, none⟩) (c - a2) (c - a2), .pointer (some ⟨c', 0, none⟩), .pointer (some ⟨c', 0, none⟩), .pointer (some ⟨c', 1, none⟩), .slice (some ⟨c', 1, none⟩) 120 120, u56, undef], []⟩ _
            refine wpAny_ready (rs := [7]) (by kernel_rfl) (by simp) ?_
            refine AllReady.cons rfl (fun K hK => ?_) AllReady.nil
            refine step_copy_splice rfl _ _ 23 23 rfl 5 Tryz.underlying23 hsz5 _ _ _ _ _ _ rfl rfl w.heap.size a2 cur 5 hgr'.out cs2 h2l.out.1 (fun hp => ⟨rfl, _, rfl, fun j v hv => ?_⟩) ?_ h21 w.heap.size w hBr' (Nat.le_refl _) ?_
            · rw [Addr.add_mid]
              exact (hBr'.cell (p := ⟨c', 1 + j, none⟩) hc'w).trans (h2r.out j v hv)
            · rw [h2l.out.2, hcu.out.1]; omega
            · intro w3 hg3 hB3
              refine hK _ _ ?_
              clear hK K
              refine wpAny_done (by kernel_rfl) ?_ _
              exact ⟨rfl, rfl, hg3, hB3⟩
          case g1 =>
            rintro e a w3 ⟨rfl, rfl, hg3, hB3⟩
            have d3 : w3.cell? ⟨c', 0, none⟩ = some (.pointer q') := (hB3.cell (p := ⟨c', 0, none⟩) hc'w).trans hcell0
            have hcu3 : Hid ((splice cur a2 cs2).length = c ∧ ∀ i, 120 * k ≤ i → i < c → (splice cur a2 cs2)[i]? = some (.int .u8 (byteAt l i))) := by
              have e2 := Ha2.out
              have e3 : a2 + cs2.length ≤ cur.length := by rw [h2l.out.2, hcu.out.1]; omega
              refine ⟨by rw [length_splice _ _ _ e3]; exact hcu.out.1, fun i hi1 hi2 => ?_⟩
              rw [splice_get _ _ _ _ e3, if_neg (by omega), h2l.out.2]
              by_cases hi3 : i < a2 + 120
              · rw [if_pos hi3, h2v.out _ (by omega), show a2 + (i - a2) = i from by omega]
              · rw [if_neg hi3]; exact hcu.out.2 i (by omega) hi2
            clear hcell0
            go_wp2_with fail
            go_roundw
            case rel => exact ⟨k, a2, q', _, ⟨Ha2.out, by have := hk.out; omega⟩, rfl, rfl, hC', hcu3, hg3, hB3⟩
            case measure => simp [intOf]; omega

end Go.Proofs.YtpdaklklhoenhaaGreatDoor

namespace Go.Proofs.YtpdaklklhoenhaaGreatDoor
open Go.RowKit
open M
set_option linter.unusedVariables false

/-- The cells of a new Writer. -/
def zW : Array Value := (Value.pointer none :: (List.replicate 120 (Value.int .u8 0) ++ [.int .i64 0, .int .i64 0])).toArray

/-- A Writer whose block has just been made. -/
theorem wr_of {w : World} {b lo : Nat} {t : TypeId} (hn : w.heap[b]? = some (.cells zW t (0, 0))) : Wr w lo b 0 [] 0 := by
  have h0 : zW[0]? = some (.pointer none) := by kernel_rfl
  have h1 : zW[121]? = some (.int .i64 0) := by kernel_rfl
  have h2 : zW[122]? = some (.int .i64 0) := by kernel_rfl
  refine ⟨none, ⟨?_, fun j hj => ?_, ?_, ?_, fun j hj => ?_⟩, rfl⟩
  · rw [cell_of_row _ _ _ _ _ _ hn]; exact h0
  · rw [cell_of_row _ _ _ _ _ _ hn, show 0 + 1 + j = j + 1 from by omega, zW]
    simp only [List.getElem?_toArray, List.getElem?_cons_succ]
    rw [List.getElem?_append_left (by simpa using hj), List.getElem?_replicate, if_pos hj]
    simp [byteAt]
  · rw [cell_of_row _ _ _ _ _ _ hn]; exact h1
  · rw [cell_of_row _ _ _ _ _ _ hn]; exact h2
  · exact frozen_of_row _ _ _ _ _ hn

theorem zW_built : (Tryz.prog.built 101 (#[] : Array (Nat × Value)).toList).getD #[] = zW := by kernel_rfl

theorem Only.below {b o1 o2 : Nat} {w w' : World} (h : Only b o1 o2 w w') {B : Nat} (hB : B ≤ b) (hs : B ≤ w.heap.size) : Below B w w' :=
  ⟨h.os, h.tape, h.output, h.size, fun k hk => h.block k (by omega) (by omega)⟩

theorem isBytes_row {w : World} {g : Nat} {bs : List Nat} {cap : Nat} (h : w.heap[g]? = some (.cells (bytesV bs).toArray 5 (0, 0))) : IsBytes w (.slice (some ⟨g, 0, none⟩) bs.length cap) bs := by
  refine .inr ⟨g, 0, cap, rfl, fun i hi => ?_⟩
  rw [cell_of_row _ _ _ _ _ _ h]
  simp [bytesV, hi]

theorem wdone_packed (b off lo : Nat) (w : World) (l : List Bool) (hW : Wr w lo b off l 0) (hlo : lo ≤ w.heap.size) (hlen : l.length < 1000000000000) (bs : List Nat) (hbs : packed l = bs) :
    Calls Tryz.prog 50 #[.pointer (some ⟨b, off, none⟩)] w fun e w' => e = .returned (.tuple #[.slice (some ⟨w.heap.size, 0, none⟩) bs.length bs.length, .int .i64 0]) ∧
      w'.heap[w.heap.size]? = some (.cells (bytesV bs).toArray 5 (0, 0)) ∧ Below w.heap.size w w' := by
  subst hbs
  rw [packed_length]
  exact wdone_any b off lo w l hW hlo hlen


theorem rb_strOf (bs : List Nat) (h : ∀ n ∈ bs, n < 256) : rb (strOf bs) = rbits bs := by rw [rb, bytesN_strOf bs h]

/-- What works lays. -/
def worksL : List Bool := bitsOf 5 3 ++ varB 300 ++ varB (zig (-1))

theorem packed_lt (l : List Bool) : ∀ n ∈ packed l, n < 256 := by
  intro n hn
  simp [packed] at hn
  obtain ⟨i, _, rfl⟩ := hn
  exact byteAt_lt _ _


end Go.Proofs.YtpdaklklhoenhaaGreatDoor

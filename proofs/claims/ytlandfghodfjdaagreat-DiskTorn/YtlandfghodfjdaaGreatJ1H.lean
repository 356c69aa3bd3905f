/- Append. -/
import Derived.Test.YtlandfghodfjdaaGreatJ1F
/- Bytes laid behind a file, be it one that is yet to be made; Append. -/
namespace Go.Proofs.YtlandfghodfjdaaGreat
open Go.RowKit
open Go.MuLone (lock_free unlock_deferred)
set_option linter.unusedVariables false
set_option linter.unusedSimpArgs false

/-- Bytes are laid behind a file of this name. -/
def Con.app (c : Con) (nm : ByteArray) (bs : List Nat) : Con := if c.any (fun y => decide (y.1 = nm)) then Con.upd c nm fun q => (q.1 ++ bs, q.2) else c ++ [(nm, bs, 0)]

theorem Con.upd_at {c : Con} (hn : (c.map (·.1)).Nodup) {nm : ByteArray} {a : List Nat} {su : Nat} (hx : (nm, a, su) ∈ c) (g : List Nat × Nat → List Nat × Nat) : Con.upd c nm (fun _ => g (a, su)) = Con.upd c nm g := by
  unfold Con.upd
  apply List.map_congr_left
  intro y hy
  by_cases e : y.1 = nm
  · have : y = (nm, a, su) := by
      clear g
      induction c with
      | nil => simp at hy
      | cons z l ih =>
        rw [List.map_cons, List.nodup_cons] at hn
        rcases List.mem_cons.1 hx with h1 | h1 <;> rcases List.mem_cons.1 hy with h2 | h2
        · rw [h1, h2]
        · exact absurd (List.mem_map.2 ⟨y, h2, by rw [e, ← h1]⟩) hn.1
        · exact absurd (List.mem_map.2 ⟨_, h1, by rw [← h2, e]⟩) hn.1
        · exact ih hn.2 h1 h2
    rw [if_pos e, if_pos e, this]
  · rw [if_neg e, if_neg e]

theorem Con.app_old {c : Con} (hn : (c.map (·.1)).Nodup) {nm : ByteArray} {a : List Nat} {su : Nat} (hx : (nm, a, su) ∈ c) (bs : List Nat) : Con.upd c nm (fun _ => (a ++ bs, su)) = Con.app c nm bs := by
  unfold Con.app
  rw [if_pos (List.any_eq_true.2 ⟨_, hx, by simp⟩)]
  exact Con.upd_at hn hx fun q => (q.1 ++ bs, q.2)

theorem Con.app_new {c : Con} {nm : ByteArray} (hx : ∀ y ∈ c, y.1 ≠ nm) (bs : List Nat) : c ++ [(nm, bs, 0)] = Con.app c nm bs := by
  unfold Con.app
  rw [if_neg]
  intro h
  obtain ⟨y, hy, h2⟩ := List.any_eq_true.1 h
  exact hx y hy (by simpa using h2)

theorem Con.upd_last {c : Con} {nm : ByteArray} (hx : ∀ y ∈ c, y.1 ≠ nm) (bs : List Nat) : Con.upd (c ++ [(nm, [], 0)]) nm (fun _ => ([] ++ bs, 0)) = c ++ [(nm, bs, 0)] := by
  unfold Con.upd
  rw [List.map_append]
  congr 1
  · conv => rhs; rw [← List.map_id c]
    apply List.map_congr_left
    intro y hy
    rw [if_neg (hx y hy)]; rfl
  · simp

set_option maxRecDepth 100000 in
theorem lay_old {B : Nat} {S : DS} {lk : Int} (w : World) (h : Dk B w lk S) (x : Fi) (hx : x ∈ S.L) (vb : Value) (bs : List Nat) (hb : IsBy w vb bs) (hbb : ∀ n ∈ bs, n < 256) (hr : tot S.L + bs.length ≤ S.room) :
    Calls Tryz.prog 45 #[.pointer (some ⟨S.d, 0, none⟩), .string x.nm, vb] w fun e w' => e = .returned (.tuple #[]) ∧ ∃ S' : DS, S'.d = S.d ∧ S'.ps = { S.ps with con := Con.app S.ps.con x.nm bs } ∧ Dk B w' lk S' ∧ Fr w (Fp S) w' (Fp S') := by
  have c3 := h.cell 3 (.map (some S.m)) rfl
  have hlk := h.look hx
  have H := hide h
  have HB := hide hb
  have hlen : x.bs.length ≤ tot S.L := by
    have := Con.tot_upd (con_nodup h) (con_mem hx) [] 0
    rw [tot_con]; have e : S.ps.con = S.L.map Fi.con := rfl; rw [← e]; simp at this; omega
  have HF : Hid (Calls Tryz.prog 64 #[.pointer (some ⟨x.f, 0, none⟩), vb] w _) := flay_any (B := B) w x.f x.v x.su x.bs vb bs (h.fl x hx) (h.ow x hx) hb h.lt (by have := h.rm; omega)
  have HBB := hide hbb
  have HR := hide hr
  obtain ⟨p, cb, hvb, _⟩ := by_slice hb
  have HVB := hide hvb
  obtain rfl := HVB.out
  clear h hb hvb hbb hr hlen
  go_enter Tryz.func45, Tryz.ntmps45
  go_wp2_with (go_at_call 64; refine HF.out.mono ?_; rintro e w' ⟨rfl, hR⟩; have HR2 := hide hR; clear hR)
  go_end0
  obtain ⟨v2, w2, rfl, ho2, hg2, hat⟩ := HR2.out
  obtain ⟨S', e1, e2, e3, e4⟩ := H.out.laid hx bs v2 ho2 hg2 hat HBB.out HR.out
  exact ⟨rfl, S', e1, by rw [e2, Con.app_old (con_nodup H.out) (con_mem hx)], e3, e4⟩

theorem lay_news {B : Nat} {S : DS} {lk : Int} {w w1 : World} (h : Dk B w lk S) (nm : ByteArray) (hx : ∀ x ∈ S.L, x.nm ≠ nm) (hl : S.L.length < 256) (hB1 : Below (w.alloc (.cells #[.slice none 0 0, .int .i64 0] 79)).heap.size (w.alloc (.cells #[.slice none 0 0, .int .i64 0] 79)) w1) :
    Dk B (putM w1 S nm w.heap.size) lk { S with L := S.L ++ [⟨nm, w.heap.size, .slice none 0 0, [], 0, S.clock⟩], clock := S.clock + 1 } ∧ Fr w (Fp S) (putM w1 S nm w.heap.size) (Fp { S with L := S.L ++ [⟨nm, w.heap.size, .slice none 0 0, [], 0, S.clock⟩], clock := S.clock + 1 }) := by
  have hba : Below w.heap.size w (w.alloc (.cells #[.slice none 0 0, .int .i64 0] 79)) := (Below.refl _ _).alloc (Nat.le_refl _) _
  have hb1 : Below w.heap.size w w1 := hba.trans (hB1.mono hba.size)
  have h1 := h.below hb1
  have hf : w1.heap[w.heap.size]? = some (.cells #[.slice none 0 0, .int .i64 0] 79 (0, 0)) := (hB1.block _ (by simp)).trans (heap_alloc_new w _)
  have hfn : ¬ Fp S w.heap.size := fun e => by have := h.fpLt _ e; omega
  refine ⟨h1.add hx w.heap.size hf hfn h.lt hl rfl, hb1.os, hb1.tape, hb1.output, Nat.le_trans hb1.size (by simp [putM]), fun k hk hn => ⟨?_, ?_⟩⟩
  · rintro (e | e | ⟨y, hy, e⟩)
    · exact hn (.inl e)
    · exact hn (.inr (.inl e))
    · rcases List.mem_append.1 hy with hy | hy
      · exact hn (.inr (.inr ⟨y, hy, e⟩))
      · simp at hy; subst hy
        rcases e with e | e
        · simp at e; omega
        · simp [Value.ownBlock] at e
  · have : k ≠ S.m := fun e => hn (.inr (.inl e))
    rw [show (putM w1 S nm w.heap.size).heap[k]? = w1.heap[k]? from Array.getElem?_setIfInBounds_ne (Ne.symm this)]
    exact hb1.block k hk

theorem isBy_map {w w' : World} {m : Nat} {es : Array MapEntry} {c : Nat} {v : Value} {bs : List Nat} (h : IsBy w v bs) (hm : w.heap[m]? = some (.map es c)) (hk : ∀ k, k < w.heap.size → k ≠ m → w'.heap[k]? = w.heap[k]?) : IsBy w' v bs := by
  rcases h with (h | ⟨g, o, cap, h1, h2⟩) | h
  · exact .inl (.inl h)
  · refine .inl (.inr ⟨g, o, cap, h1, fun i hi => ?_⟩)
    have hc := h2 i hi
    have hgm : g ≠ m := fun e => by rw [e] at hc; simp [World.cell?, hm] at hc
    rw [World.cell?_of_block (w := w) (w' := w') (a := ⟨g, o + i, none⟩) (hk g (block_lt_of_cell hc) hgm)]
    exact hc
  · exact .inr h

set_option maxRecDepth 100000 in
theorem lay_new {B : Nat} {S : DS} {lk : Int} (w : World) (h : Dk B w lk S) (nm : ByteArray) (hx : ∀ x ∈ S.L, x.nm ≠ nm) (hs : nm.size ≤ 1000) (hl : S.L.length < 256) (vb : Value) (bs : List Nat) (hb : IsBy w vb bs) (hbb : ∀ n ∈ bs, n < 256) (hr : tot S.L + bs.length ≤ S.room) :
    Calls Tryz.prog 45 #[.pointer (some ⟨S.d, 0, none⟩), .string nm, vb] w fun e w' => e = .returned (.tuple #[]) ∧ ∃ S' : DS, S'.d = S.d ∧ S'.ps = { S.ps with con := Con.app S.ps.con nm bs } ∧ Dk B w' lk S' ∧ Fr w (Fp S) w' (Fp S') := by
  have c3 := h.cell 3 (.map (some S.m)) rfl
  have hlk := h.lookNo hx
  have H := hide h
  have HX := hide hx
  have hba : Below w.heap.size w (w.alloc (.cells #[.slice none 0 0, .int .i64 0] 79)) := (Below.refl _ _).alloc (Nat.le_refl _) _
  have HP : Hid (Calls Tryz.prog 61 #[.pointer (some ⟨S.d, 0, none⟩), .string nm, .pointer (some ⟨w.heap.size, 0, none⟩)] (w.alloc (.cells #[.slice none 0 0, .int .i64 0] 79)) _) := put_any _ (h.below hba) nm hx hs w.heap.size
  obtain ⟨x2, hx2⟩ : ∃ x2 : Fi, x2 = ⟨nm, w.heap.size, .slice none 0 0, [], 0, S.clock⟩ := ⟨_, rfl⟩
  obtain ⟨S2, hS2⟩ : ∃ S2 : DS, S2 = { S with L := S.L ++ [x2], clock := S.clock + 1 } := ⟨_, rfl⟩
  have HN : Hid (∀ w1, Below (w.alloc (.cells #[.slice none 0 0, .int .i64 0] 79)).heap.size (w.alloc (.cells #[.slice none 0 0, .int .i64 0] 79)) w1 → Dk B (putM w1 S nm w.heap.size) lk S2 ∧ Fr w (Fp S) (putM w1 S nm w.heap.size) (Fp S2) ∧ IsBy (putM w1 S nm w.heap.size) vb bs) := fun w1 hB1 => by
    have := lay_news h nm hx hl hB1
    rw [hS2, hx2]
    refine ⟨this.1, this.2, isBy_map hb h.mp fun k hk hkm => ?_⟩
    rw [show (putM w1 S nm w.heap.size).heap[k]? = w1.heap[k]? from Array.getElem?_setIfInBounds_ne (Ne.symm hkm)]
    exact (hba.trans (hB1.mono hba.size)).block k hk
  have HM : Hid (x2 ∈ S2.L ∧ S2.d = S.d ∧ S2.m = S.m ∧ S2.room = S.room ∧ tot S2.L = tot S.L ∧ S2.ps = { S.ps with con := S.ps.con ++ [(nm, [], 0)] }) := by
    rw [hS2]
    refine ⟨by simp, rfl, rfl, rfl, ?_, ?_⟩
    · have : ∀ L : List Fi, tot (L ++ [x2]) = tot L := by
        intro L
        induction L with
        | nil => rw [hx2]; rfl
        | cons x l ih => rw [List.cons_append, tot, ih]; rfl
      exact this _
    · unfold DS.ps; rw [List.map_append, hx2]; rfl
  have HE : Hid (x2.nm = nm ∧ x2.f = w.heap.size ∧ x2.bs = [] ∧ x2.su = 0) := by rw [hx2]; exact ⟨rfl, rfl, rfl, rfl⟩
  have HC : Hid (∀ y ∈ S.ps.con, y.1 ≠ nm) := fun y hy => by
    obtain ⟨z, hz, rfl⟩ := List.mem_map.1 hy
    exact hx z hz
  have HBB := hide hbb
  have HR := hide hr
  obtain ⟨p, cb, hvb, _⟩ := by_slice hb
  have HVB := hide hvb
  obtain rfl := HVB.out
  clear h hb hvb hbb hr hx hba hx2 hS2
  go_enter Tryz.func45, Tryz.ntmps45
  go_wp2_with (first
    | (go_at_call 61; refine HP.out.mono ?_; rintro e w' ⟨rfl, w1, hB1, hw⟩; have HD : Hid (Dk B w' lk S2 ∧ Fr w (Fp S) w' (Fp S2) ∧ IsBy w' (.slice p bs.length cb) bs) := (by rw [hw]; exact HN.out w1 hB1); have c32 : w'.cell? ⟨S.d, 3, none⟩ = some (.map (some S.m)) := (by rw [← HM.out.2.1, ← HM.out.2.2.1]; exact HD.out.1.cell 3 _ rfl); have hlk2 : (Instr.lookup 57 (.map (some S.m)) (.string nm) false).run Tryz.prog w' = .ok (.pointer (some ⟨w.heap.size, 0, none⟩)) w' := (by rw [← HE.out.1, ← HE.out.2.1, ← HM.out.2.2.1]; exact HD.out.1.look HM.out.1); have HF : Hid (Calls Tryz.prog 64 #[.pointer (some ⟨w.heap.size, 0, none⟩), .slice p bs.length cb] w' (fun e w' => e = .returned (.tuple #[]) ∧ ∃ v2 w2, w' = w2.setCell ⟨w.heap.size, 0, none⟩ v2 ∧ w2.ownsRow B 5 1 v2 (x2.bs ++ bs).length (bytesV (x2.bs ++ bs)) ∧ World.grownBy _ w2 x2.v.ownBlock ∧ (v2.ownBlock = x2.v.ownBlock ∨ v2.ownBlock = some (World.heap _).size))) := (by rw [← HE.out.2.1]; exact flay_any (B := B) w' x2.f x2.v x2.su x2.bs (.slice p bs.length cb) bs (HD.out.1.fl x2 HM.out.1) (HD.out.1.ow x2 HM.out.1) HD.out.2.2 HD.out.1.lt (by rw [HE.out.2.2.1]; have := HD.out.1.rm; have := HR.out; have := HM.out; simp; omega)); clear hw hB1 c3 hlk)
    | (go_at_call 64; refine HF.out.mono ?_; rintro e w3 ⟨rfl, hR⟩; have HR2 := hide hR; clear hR))
  go_end0
  obtain ⟨v2, w2, rfl, ho2, hg2, hat⟩ := HR2.out
  obtain ⟨S', e1, e2, e3, e4⟩ := HD.out.1.laid HM.out.1 bs v2 ho2 hg2 hat HBB.out (by rw [HM.out.2.2.2.2.1, HM.out.2.2.2.1]; exact HR.out)
  rw [HE.out.2.1] at e3 e4
  refine ⟨rfl, S', e1.trans HM.out.2.1, ?_, e3, HD.out.2.1.trans e4⟩
  rw [e2, HM.out.2.2.2.2.2, HE.out.1, HE.out.2.2.1, HE.out.2.2.2]
  show ({ S.ps with con := _ } : PS) = _
  rw [Con.upd_last HC.out, Con.app_new HC.out]

end Go.Proofs.YtlandfghodfjdaaGreat

namespace Go.Proofs.YtlandfghodfjdaaGreat
open Go.RowKit
open Go.MuLone (lock_free unlock_deferred run_callFunc_enter)
set_option linter.unusedVariables false
set_option linter.unusedSimpArgs false

theorem lay_any {B : Nat} {S : DS} {lk : Int} (w : World) (h : Dk B w lk S) (nm : ByteArray) (hs : nm.size ≤ 1000) (hc : (∃ x ∈ S.L, x.nm = nm) ∨ ((∀ x ∈ S.L, x.nm ≠ nm) ∧ S.L.length < 256)) (vb : Value) (bs : List Nat) (hb : IsBy w vb bs) (hbb : ∀ n ∈ bs, n < 256) (hr : tot S.L + bs.length ≤ S.room) :
    Calls Tryz.prog 45 #[.pointer (some ⟨S.d, 0, none⟩), .string nm, vb] w fun e w' => e = .returned (.tuple #[]) ∧ ∃ S' : DS, S'.d = S.d ∧ S'.ps = { S.ps with con := Con.app S.ps.con nm bs } ∧ Dk B w' lk S' ∧ Fr w (Fp S) w' (Fp S') := by
  rcases hc with ⟨x, hx, rfl⟩ | ⟨hx, hl⟩
  · exact lay_old w h x hx vb bs hb hbb hr
  · exact lay_new w h nm hx hs hl vb bs hb hbb hr

theorem Fr.drew {w w' : World} {F F' : Nat → Prop} (h : Fr w.drew F w' F') : Fr w F w' F' := ⟨h.os, h.tape, h.output, h.size, h.block⟩
theorem Fr.cell {w w' : World} {F F' : Nat → Prop} (h : Fr w F w' F') {a : Addr} (hn : ¬ F a.block) {v : Value} (hc : w.cell? a = some v) : w'.cell? a = some v := by
  rw [World.cell?_of_block (w := w) (w' := w') (a := a) (h.block _ (World.block_lt_of_cell? w a hc) hn).2]; exact hc
theorem Dk.drew {B : Nat} {w : World} {lk : Int} {S : DS} (h : Dk B w lk S) : Dk B w.drew lk S := h.keep fun _ _ => rfl
theorem isBy_heap {w w' : World} {v : Value} {bs : List Nat} (h : IsBy w v bs) (hw : w'.heap = w.heap) : IsBy w' v bs := by
  rcases h with (h | ⟨g, o, cap, h1, h2⟩) | h
  · exact .inl (.inl h)
  · exact .inl (.inr ⟨g, o, cap, h1, fun i hi => by rw [World.cell?_of_block (w := w) (w' := w') (a := ⟨g, o + i, none⟩) (by rw [hw])]; exact h2 i hi⟩)
  · exact .inr h

set_option maxRecDepth 100000 in
set_option maxHeartbeats 1000000 in
theorem appendC_any {B : Nat} {S : DS} {lk : Int} (w : World) (h : Dk B w lk S) (nm : ByteArray) (hs : nm.size ≤ 1000) (hc : (∃ x ∈ S.L, x.nm = nm) ∨ ((∀ x ∈ S.L, x.nm ≠ nm) ∧ S.L.length < 256)) (p : Option Addr) (n cb : Nat) (bs : List Nat) (hnb : n = bs.length) (hn0 : n ≤ 1000000000) (hnc : n ≤ cb) (hp : p = none → cb = 0) (hb : IsBy w (.slice p n cb) bs) (hbb : ∀ n ∈ bs, n < 256) (hr : tot S.L + bs.length ≤ S.room) (g1 g2 g3 : Nat) (n1 : ¬ Fp S g1) (n2 : ¬ Fp S g2) (n3 : ¬ Fp S g3)
    (c1 : w.cell? ⟨g1, 0, none⟩ = some (.pointer (some ⟨S.d, 0, none⟩))) (c2 : w.cell? ⟨g2, 0, none⟩ = some (.string nm)) (c3 : w.cell? ⟨g3, 0, none⟩ = some (.slice p n cb)) :
    Calls Tryz.prog 50 #[.int .i64 9223372036854775807, .pointer (some ⟨g1, 0, none⟩), .pointer (some ⟨g2, 0, none⟩), .pointer (some ⟨g3, 0, none⟩)] w fun e w' => e = .returned (.tuple #[]) ∧ ∃ S' : DS, S'.d = S.d ∧ S'.ps = { S.ps with con := Con.app S.ps.con nm bs } ∧ Dk B w' lk S' ∧ Fr w (Fp S) w' (Fp S') := by
  have HL : Hid (Calls Tryz.prog 45 #[.pointer (some ⟨S.d, 0, none⟩), .string nm, .slice p n cb] w.drew _) := lay_any w.drew h.drew nm hs hc (.slice p n cb) bs (isBy_heap hb rfl) hbb hr
  have d1 : w.drew.cell? ⟨g1, 0, none⟩ = some (.pointer (some ⟨S.d, 0, none⟩)) := c1
  have d2 : w.drew.cell? ⟨g2, 0, none⟩ = some (.string nm) := c2
  have d3 : w.drew.cell? ⟨g3, 0, none⟩ = some (.slice p n cb) := c3
  have hmn : ¬ (9223372036854775807 : Int) < (n : Int) := by omega
  have hmn2 : (n : Int) ≤ 9223372036854775807 := by omega
  clear h hb hbb hr hc hnb
  go_enter Tryz.func50, Tryz.ntmps50
  rcases p with _ | ad
  · obtain rfl := hp rfl
    obtain rfl : n = 0 := by omega
    have hmin : min (9223372036854775807 : Int) 0 = 0 := by decide
    have hif : (if ((0 : Nat) : Int) < 9223372036854775807 then ((0 : Nat) : Int) else 9223372036854775807) = 0 := by decide
    have hif1 : (if (0 : Int) < 9223372036854775807 then (0 : Int) else 9223372036854775807) = 0 := by decide
    refine wp_region_held_drew (S := fun w' => w'.cell? ⟨g1, 0, none⟩ = some (.pointer (some ⟨S.d, 0, none⟩)) ∧ w'.cell? ⟨g2, 0, none⟩ = some (.string nm) ∧ w'.cell? ⟨g3, 0, none⟩ = some (.slice none 0 0)) (by kernel_rfl) ⟨d1, d2, d3⟩ (fun hHeld => ?_)
    refine wpAnyH_take (i := 0) (v := ?_) rfl (by kernel_rfl) (by kernel_rfl) (by kernel_rfl) (fun _ _ _ h => h) (Or.inl ⟨by rfl, ?_⟩) hHeld ?_
    rotate_left
    · (intro wq hSw; (try dsimp only at hSw); (try obtain ⟨s0, s1, s2⟩ := hSw); (go_simp <;> with_reducible rfl))
    try simp only [Act.put, List.getElem_toArray, List.getElem_cons_zero, List.getElem_cons_succ, List.setIfInBounds_toArray, List.set_cons_zero, List.set_cons_succ]
    refine wpAnyH_take (i := 1) (v := ?_) rfl (by kernel_rfl) (by kernel_rfl) (by kernel_rfl) (fun _ _ _ h => h) (Or.inl ⟨by rfl, ?_⟩) hHeld ?_
    rotate_left
    · (intro wq hSw; (try dsimp only at hSw); (try obtain ⟨s0, s1, s2⟩ := hSw); (go_simp <;> with_reducible rfl))
    try simp only [Act.put, List.getElem_toArray, List.getElem_cons_zero, List.getElem_cons_succ, List.setIfInBounds_toArray, List.set_cons_zero, List.set_cons_succ]
    refine wpAnyH_take (i := 2) (v := ?_) rfl (by kernel_rfl) (by kernel_rfl) (by kernel_rfl) (fun _ _ _ h => h) (Or.inl ⟨by rfl, ?_⟩) hHeld ?_
    rotate_left
    · (intro wq hSw; (try dsimp only at hSw); (try obtain ⟨s0, s1, s2⟩ := hSw); (go_simp <;> with_reducible rfl))
    try simp only [Act.put, List.getElem_toArray, List.getElem_cons_zero, List.getElem_cons_succ, List.setIfInBounds_toArray, List.set_cons_zero, List.set_cons_succ]
    refine wpAnyH_take (i := 3) (v := ?_) rfl (by kernel_rfl) (by kernel_rfl) (by kernel_rfl) (fun _ _ _ h => h) (Or.inl ⟨by rfl, ?_⟩) hHeld ?_
    rotate_left
    · (intro wq hSw; (try dsimp only at hSw); (try obtain ⟨s0, s1, s2⟩ := hSw); (go_simp <;> with_reducible rfl))
    try simp only [Act.put, List.getElem_toArray, List.getElem_cons_zero, List.getElem_cons_succ, List.setIfInBounds_toArray, List.set_cons_zero, List.set_cons_succ]
    refine wpAnyH_take (i := 4) (v := ?_) rfl (by kernel_rfl) (by kernel_rfl) (by kernel_rfl) (fun _ _ _ h => h) (Or.inl ⟨by rfl, ?_⟩) hHeld ?_
    rotate_left
    · (intro wq hSw; (try dsimp only at hSw); (try obtain ⟨s0, s1, s2⟩ := hSw); (go_simp <;> with_reducible rfl))
    try simp only [Act.put, List.getElem_toArray, List.getElem_cons_zero, List.getElem_cons_succ, List.setIfInBounds_toArray, List.set_cons_zero, List.set_cons_succ]
    refine wpAnyH_take (i := 5) (v := ?_) rfl (by kernel_rfl) (by kernel_rfl) (by kernel_rfl) (fun _ _ _ h => h) (Or.inl ⟨by rfl, ?_⟩) hHeld ?_
    rotate_left
    · (intro wq hSw; (try dsimp only at hSw); (try obtain ⟨s0, s1, s2⟩ := hSw); (go_simp <;> with_reducible rfl))
    try simp only [Act.put, List.getElem_toArray, List.getElem_cons_zero, List.getElem_cons_succ, List.setIfInBounds_toArray, List.set_cons_zero, List.set_cons_succ]
    refine wpAnyH_take (i := 6) (v := ?_) rfl (by kernel_rfl) (by kernel_rfl) (by kernel_rfl) (fun _ _ _ h => h) (Or.inl ⟨by rfl, ?_⟩) hHeld ?_
    rotate_left
    · (intro wq hSw; (try dsimp only at hSw); (try obtain ⟨s0, s1, s2⟩ := hSw); (go_simp <;> with_reducible rfl))
    try simp only [Act.put, List.getElem_toArray, List.getElem_cons_zero, List.getElem_cons_succ, List.setIfInBounds_toArray, List.set_cons_zero, List.set_cons_succ]
    refine wpAnyH_take (i := 7) (v := ?_) rfl (by kernel_rfl) (by kernel_rfl) (by kernel_rfl) (fun _ _ _ h => h) (Or.inl ⟨by rfl, ?_⟩) hHeld ?_
    rotate_left
    · (intro wq hSw; (try dsimp only at hSw); (try obtain ⟨s0, s1, s2⟩ := hSw); (go_simp <;> with_reducible rfl))
    try simp only [Act.put, List.getElem_toArray, List.getElem_cons_zero, List.getElem_cons_succ, List.setIfInBounds_toArray, List.set_cons_zero, List.set_cons_succ]
    refine wpAnyH_ready (rs := [8]) (by kernel_rfl) (by simp) ?_
    refine AllReadyH.cons rfl (fun K hK => ?_) AllReadyH.nil
    go_simp
    refine HL.out.mono ?_
    rintro _ w1 ⟨rfl, hR⟩
    have HR2 := hide hR
    clear hR
    refine hK.out _ _ (by obtain ⟨S1, e1, e2, e3, e4⟩ := HR2.out; exact ⟨e4.cell n1 d1, e4.cell n2 d2, e4.cell n3 d3⟩) (fun hHeld => ?_)
    clear hK K
    try simp only [Act.put, List.getElem_toArray, List.getElem_cons_zero, List.getElem_cons_succ, List.setIfInBounds_toArray, List.set_cons_zero, List.set_cons_succ]
    refine wpAnyH_done (by kernel_rfl) ?_ _
    go_end0
    obtain ⟨S', e1, e2, e3, e4⟩ := HR2.out
    exact ⟨rfl, S', e1, e2, e3, e4.drew⟩
  · have hnc' : (n : Int) ≤ (cb : Int) := by omega
    have hmin : min (9223372036854775807 : Int) (n : Int) = (n : Int) := by omega
    have hif : (if (n : Int) < 9223372036854775807 then (n : Int) else 9223372036854775807) = (n : Int) := if_pos (by omega)
    have hif1 := hif
    refine wp_region_held_drew (S := fun w' => w'.cell? ⟨g1, 0, none⟩ = some (.pointer (some ⟨S.d, 0, none⟩)) ∧ w'.cell? ⟨g2, 0, none⟩ = some (.string nm) ∧ w'.cell? ⟨g3, 0, none⟩ = some (.slice (some ad) n cb)) (by kernel_rfl) ⟨d1, d2, d3⟩ (fun hHeld => ?_)
    refine wpAnyH_take (i := 0) (v := ?_) rfl (by kernel_rfl) (by kernel_rfl) (by kernel_rfl) (fun _ _ _ h => h) (Or.inl ⟨by rfl, ?_⟩) hHeld ?_
    rotate_left
    · (intro wq hSw; (try dsimp only at hSw); (try obtain ⟨s0, s1, s2⟩ := hSw); (go_simp <;> with_reducible rfl))
    try simp only [Act.put, List.getElem_toArray, List.getElem_cons_zero, List.getElem_cons_succ, List.setIfInBounds_toArray, List.set_cons_zero, List.set_cons_succ]
    refine wpAnyH_take (i := 1) (v := ?_) rfl (by kernel_rfl) (by kernel_rfl) (by kernel_rfl) (fun _ _ _ h => h) (Or.inl ⟨by rfl, ?_⟩) hHeld ?_
    rotate_left
    · (intro wq hSw; (try dsimp only at hSw); (try obtain ⟨s0, s1, s2⟩ := hSw); (go_simp <;> with_reducible rfl))
    try simp only [Act.put, List.getElem_toArray, List.getElem_cons_zero, List.getElem_cons_succ, List.setIfInBounds_toArray, List.set_cons_zero, List.set_cons_succ]
    refine wpAnyH_take (i := 2) (v := ?_) rfl (by kernel_rfl) (by kernel_rfl) (by kernel_rfl) (fun _ _ _ h => h) (Or.inl ⟨by rfl, ?_⟩) hHeld ?_
    rotate_left
    · (intro wq hSw; (try dsimp only at hSw); (try obtain ⟨s0, s1, s2⟩ := hSw); (go_simp <;> with_reducible rfl))
    try simp only [Act.put, List.getElem_toArray, List.getElem_cons_zero, List.getElem_cons_succ, List.setIfInBounds_toArray, List.set_cons_zero, List.set_cons_succ]
    refine wpAnyH_take (i := 3) (v := ?_) rfl (by kernel_rfl) (by kernel_rfl) (by kernel_rfl) (fun _ _ _ h => h) (Or.inl ⟨by rfl, ?_⟩) hHeld ?_
    rotate_left
    · (intro wq hSw; (try dsimp only at hSw); (try obtain ⟨s0, s1, s2⟩ := hSw); (go_simp <;> with_reducible rfl))
    try simp only [Act.put, List.getElem_toArray, List.getElem_cons_zero, List.getElem_cons_succ, List.setIfInBounds_toArray, List.set_cons_zero, List.set_cons_succ]
    refine wpAnyH_take (i := 4) (v := ?_) rfl (by kernel_rfl) (by kernel_rfl) (by kernel_rfl) (fun _ _ _ h => h) (Or.inl ⟨by rfl, ?_⟩) hHeld ?_
    rotate_left
    · (intro wq hSw; (try dsimp only at hSw); (try obtain ⟨s0, s1, s2⟩ := hSw); (go_simp <;> with_reducible rfl))
    try simp only [Act.put, List.getElem_toArray, List.getElem_cons_zero, List.getElem_cons_succ, List.setIfInBounds_toArray, List.set_cons_zero, List.set_cons_succ]
    refine wpAnyH_take (i := 5) (v := ?_) rfl (by kernel_rfl) (by kernel_rfl) (by kernel_rfl) (fun _ _ _ h => h) (Or.inl ⟨by rfl, ?_⟩) hHeld ?_
    rotate_left
    · (intro wq hSw; (try dsimp only at hSw); (try obtain ⟨s0, s1, s2⟩ := hSw); (go_simp <;> with_reducible rfl))
    try simp only [Act.put, List.getElem_toArray, List.getElem_cons_zero, List.getElem_cons_succ, List.setIfInBounds_toArray, List.set_cons_zero, List.set_cons_succ]
    refine wpAnyH_take (i := 6) (v := ?_) rfl (by kernel_rfl) (by kernel_rfl) (by kernel_rfl) (fun _ _ _ h => h) (Or.inl ⟨by rfl, ?_⟩) hHeld ?_
    rotate_left
    · (intro wq hSw; (try dsimp only at hSw); (try obtain ⟨s0, s1, s2⟩ := hSw); (go_simp <;> with_reducible rfl))
    try simp only [Act.put, List.getElem_toArray, List.getElem_cons_zero, List.getElem_cons_succ, List.setIfInBounds_toArray, List.set_cons_zero, List.set_cons_succ]
    refine wpAnyH_take (i := 7) (v := ?_) rfl (by kernel_rfl) (by kernel_rfl) (by kernel_rfl) (fun _ _ _ h => h) (Or.inl ⟨by rfl, ?_⟩) hHeld ?_
    rotate_left
    · (intro wq hSw; (try dsimp only at hSw); (try obtain ⟨s0, s1, s2⟩ := hSw); (go_simp <;> with_reducible rfl))
    try simp only [Act.put, List.getElem_toArray, List.getElem_cons_zero, List.getElem_cons_succ, List.setIfInBounds_toArray, List.set_cons_zero, List.set_cons_succ]
    refine wpAnyH_ready (rs := [8]) (by kernel_rfl) (by simp) ?_
    refine AllReadyH.cons rfl (fun K hK => ?_) AllReadyH.nil
    go_simp
    refine HL.out.mono ?_
    rintro _ w1 ⟨rfl, hR⟩
    have HR2 := hide hR
    clear hR
    refine hK.out _ _ (by obtain ⟨S1, e1, e2, e3, e4⟩ := HR2.out; exact ⟨e4.cell n1 d1, e4.cell n2 d2, e4.cell n3 d3⟩) (fun hHeld => ?_)
    clear hK K
    try simp only [Act.put, List.getElem_toArray, List.getElem_cons_zero, List.getElem_cons_succ, List.setIfInBounds_toArray, List.set_cons_zero, List.set_cons_succ]
    refine wpAnyH_done (by kernel_rfl) ?_ _
    go_end0
    obtain ⟨S', e1, e2, e3, e4⟩ := HR2.out
    exact ⟨rfl, S', e1, e2, e3, e4.drew⟩

end Go.Proofs.YtlandfghodfjdaaGreat

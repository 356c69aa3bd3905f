/- A file is made under a name; bytes are laid behind a file, which is made if there is none. -/
import Derived.Test.YtlandfghodfjdaaGreatJ1D
import Derived.Laws.AppendOwnNone
import Derived.Maps.AppendAt
/- Writes: the count, what is armed, the closure; bytes laid behind a file. -/
namespace Go.Proofs.YtlandfghodfjdaaGreat
open Go.RowKit
set_option linter.unusedVariables false
set_option linter.unusedSimpArgs false

set_option maxRecDepth 100000 in
theorem due_no (w : World) (d : Nat) (h : w.cell? ⟨d, 5, none⟩ = some (.int .i64 0)) : Calls Tryz.prog 65 #[.pointer (some ⟨d, 5, none⟩)] w fun e w' => e = .returned (.bool false) ∧ w' = w := by
  go_enter Tryz.func65, Tryz.ntmps65
  go_wp2
  go_ret
  exact ⟨rfl, rfl⟩

set_option maxRecDepth 100000 in
theorem write_ok {B : Nat} {S : DS} {lk : Int} (w : World) (h : Dk B w lk S) (harm : S.ain = 0) (hwr : S.wr ≤ 1000000000) (k : Nat) (cap : Array Value) (R : World → Prop) (hen : ∀ args w, (callFunc k args).run Tryz.prog w = .ok (.enter k args) w)
    (hdo : Calls Tryz.prog k (#[.int .i64 9223372036854775807] ++ cap) (w.setCell ⟨S.d, 8, none⟩ (.int .i64 ((S.wr : Int) + 1))) fun e w' => e = .returned (.tuple #[]) ∧ R w') :
    Calls Tryz.prog 49 #[.pointer (some ⟨S.d, 0, none⟩), .func (.func k) #[] cap] w fun e w' => e = .returned (.int .i64 0) ∧ R w' := by
  have c8 := h.cell 8 (.int .i64 (S.wr : Int)) rfl
  have f8 := frozen_of h.dk 8
  have h1 := h.setWr (S.wr + 1)
  have c5 : (w.setCell ⟨S.d, 8, none⟩ (.int .i64 ((S.wr : Int) + 1))).cell? ⟨S.d, 5, none⟩ = some (.int .i64 0) := h1.cell 5 (.int .i64 0) (by rw [show (0 : Int) = ((S.ain : Nat) : Int) from by rw [harm]; rfl]; rfl)
  have HDO := hide hdo
  clear h h1 hdo
  go_enter Tryz.func49, Tryz.ntmps49
  go_wp2_with (go_at_call 65; refine (due_no _ S.d c5).mono ?_; rintro e w' ⟨rfl, rfl⟩)
  refine HDO.out.mono ?_
  rintro e w' ⟨rfl, hR⟩
  have HR := hide hR
  clear hR
  go_wp2_with fail
  go_ret
  exact ⟨rfl, HR.out⟩

set_option maxRecDepth 100000 in
/-- Bytes laid behind a file's. -/
theorem flay_any {B : Nat} (w : World) (f : Nat) (v : Value) (su : Int) (a : List Nat) (vb : Value) (bs : List Nat) (hf : w.heap[f]? = some (.cells #[v, .int .i64 su] 79 (0, 0))) (ho : w.ownsRow B 5 1 v a.length (bytesV a)) (hb : IsBy w vb bs) (hB : B ≤ w.heap.size) (hl : a.length + bs.length ≤ 1000000000) :
    Calls Tryz.prog 64 #[.pointer (some ⟨f, 0, none⟩), vb] w fun e w' => e = .returned (.tuple #[]) ∧ ∃ v2 w2, w' = w2.setCell ⟨f, 0, none⟩ v2 ∧ w2.ownsRow B 5 1 v2 (a ++ bs).length (bytesV (a ++ bs)) ∧ w.grownBy w2 v.ownBlock ∧ (v2.ownBlock = v.ownBlock ∨ v2.ownBlock = some w.heap.size) := by
  obtain ⟨i5, hi5⟩ := info5
  have Hi := hide hi5
  clear hi5
  have HO := hide ho
  have c0 : w.cell? ⟨f, 0, none⟩ = some v := by rw [cell_of_row w f 0 _ _ (0, 0) hf]; rfl
  have HF := hide hf
  obtain ⟨p, cap, hv⟩ : ∃ p cap, v = .slice p a.length cap := by
    rcases ho.2 with ⟨e1, e2⟩ | ⟨g, cap, cur, e1, _⟩
    · exact ⟨none, 0, by rw [e1, e2]⟩
    · exact ⟨_, cap, e1⟩
  have hfv : some f ≠ v.ownBlock := fun e => by
    rcases ho.2 with ⟨e1, _⟩ | ⟨g', cap, cur, e1, _, hh, _⟩
    · rw [e1] at e; simp [Value.ownBlock] at e
    · rw [e1] at e; simp [Value.ownBlock] at e; subst e; rw [hf] at hh; simp at hh
  have HV := hide hv
  have HFV := hide hfv
  have HLT := hide (heap_lt hf)
  obtain ⟨na, hna⟩ : ∃ na, a.length = na := ⟨_, rfl⟩
  have Hna := hide hna
  rw [hna] at hl HO HV
  clear hf hv hfv hna ho
  obtain rfl := HV.out
  rcases by_news hb with ⟨rfl, rfl⟩ | ⟨ad, capb, rfl, hnews⟩
  · clear hb
    have f0 := frozen_of HF.out 0
    go_enter Tryz.func64, Tryz.ntmps64
    go_wp2_with (at_builtin; refine wpList_append_own_none rfl _ _ _ rfl B 5 i5 1 Tryz.underlying33 Hi.out.1 (.slice p na cap) na (bytesV a) rfl HO.out rfl ?c6)
    go_end0
    refine ⟨rfl, _, w, rfl, ?_, World.grownBy.refl _ _, .inl rfl⟩
    rw [Hna.out]; exact HO.out
  · have HN := hide hnews
    clear hb hnews
    obtain ⟨nb, hnb⟩ : ∃ nb, bs.length = nb := ⟨_, rfl⟩
    have Hnb := hide hnb
    rw [hnb] at hl ⊢
    clear hnb
    go_enter Tryz.func64, Tryz.ntmps64
    go_wp2_with (at_builtin; refine wpList_append_own_at _ rfl _ _ _ rfl B 5 i5 (.int .u8 0) 1 1 Tryz.underlying33 Hi.out.1 Hi.out.2.1 Hi.out.2.2.1 Hi.out.2.2.2 rfl (by decide) (.slice p na cap) na (bytesV a) rfl HO.out ad nb capb (bytesV bs) rfl ?f2 ?f3 (bytesV_cell bs) ?f4 ?f5 ?f7 ?f6)
    case f2 => first | exact Hnb.out | (rw [Nat.mul_one, ← Hnb.out]; simp)
    case f3 => exact HN.out
    case f4 => unfold maxLen; omega
    case f5 => omega
    case f6 =>
      intro v2 w2 ho2 hg2 _ hat
      obtain ⟨p2, cap2, rfl⟩ : ∃ p cap, v2 = .slice p (na + nb) cap := by
        rcases ho2.2 with ⟨e1, e2⟩ | ⟨g, cap, cur, e1, _⟩
        · exact ⟨none, 0, by rw [e1, e2]⟩
        · exact ⟨_, cap, e1⟩
      have HF2 : Hid (w2.heap[f]? = some (.cells #[.slice p na cap, .int .i64 su] 79 (0, 0))) := (hg2.block f HLT.out HFV.out).trans HF.out
      have f0 := frozen_of HF2.out 0
      have c02 : w2.cell? ⟨f, 0, none⟩ = some (.slice p na cap) := by rw [cell_of_row w2 f 0 _ _ (0, 0) HF2.out]; rfl
      have HO2 := hide ho2
      have HG2 := hide hg2
      have HAT := hide hat
      clear ho2 hg2 hat
      go_wp2_with fail
      go_end0
      refine ⟨rfl, _, w2, rfl, ?_, HG2.out, HAT.out⟩
      rw [List.length_append, bytesV_app, Hna.out, Hnb.out]; exact HO2.out

end Go.Proofs.YtlandfghodfjdaaGreat

namespace Go.Proofs.YtlandfghodfjdaaGreat
open Go.RowKit
set_option linter.unusedVariables false
set_option linter.unusedSimpArgs false

/-- The map's block behind an entry that is put. -/
def putM (w : World) (S : DS) (nm : ByteArray) (f : Nat) : World := { w with heap := w.heap.setIfInBounds S.m (.map ((S.L.map Fi.ent).toArray.push { key := .string nm, val := .pointer (some ⟨f, 0, none⟩), born := S.clock }) (S.clock + 1)) }

set_option maxRecDepth 100000 in
theorem put_any {B : Nat} {S : DS} {lk : Int} (w : World) (h : Dk B w lk S) (nm : ByteArray) (hx : ∀ x ∈ S.L, x.nm ≠ nm) (hs : nm.size ≤ 1000) (f : Nat) :
    Calls Tryz.prog 61 #[.pointer (some ⟨S.d, 0, none⟩), .string nm, .pointer (some ⟨f, 0, none⟩)] w fun e w' => e = .returned (.tuple #[]) ∧ ∃ w1, Below w.heap.size w w1 ∧ w' = putM w1 S nm f := by
  have H := hide h
  have HX := hide hx
  have c3 := h.cell 3 (.map (some S.m)) rfl
  have c3d : w.drew.cell? ⟨S.d, 3, none⟩ = some (.map (some S.m)) := c3
  clear h hx
  go_enter Tryz.func61, Tryz.ntmps61
  refine wp_region_held_drew (S := fun w' => w'.cell? ⟨S.d, 3, none⟩ = some (.map (some S.m))) (by kernel_rfl) c3d (fun hHeld => ?_)
  refine wpAnyH_take (i := 0) (v := ?_) rfl (by kernel_rfl) (by kernel_rfl) (by kernel_rfl) (fun _ _ _ h => h) (Or.inl ⟨by rfl, ?_⟩) hHeld ?_
  rotate_left
  · (intro wq hSw; (try dsimp only at hSw); (try obtain ⟨s0, s1, s2⟩ := hSw); (go_simp <;> with_reducible rfl))
  try simp only [Act.put, List.getElem_toArray, List.getElem_cons_zero, List.getElem_cons_succ, List.setIfInBounds_toArray, List.set_cons_zero, List.set_cons_succ]
  refine wpAnyH_take (i := 1) (v := ?_) rfl (by kernel_rfl) (by kernel_rfl) (by kernel_rfl) (fun _ _ _ h => h) (Or.inl ⟨by rfl, ?_⟩) hHeld ?_
  rotate_left
  · (intro wq hSw; (try dsimp only at hSw); (try obtain ⟨s0, s1, s2⟩ := hSw); (go_simp <;> with_reducible rfl))
  try simp only [Act.put, List.getElem_toArray, List.getElem_cons_zero, List.getElem_cons_succ, List.setIfInBounds_toArray, List.set_cons_zero, List.set_cons_succ]
  refine wpAnyH_take (i := 2) (v := ?_) rfl (by kernel_rfl) (by kernel_rfl) (by kernel_rfl) (fun _ _ _ h => h) (Or.inl ⟨by rfl, ?_⟩) hHeld ?_
  rotate_left
  · (intro wq hSw; (try dsimp only at hSw); (try obtain ⟨s0, s1, s2⟩ := hSw); (go_simp <;> with_reducible rfl))
  try simp only [Act.put, List.getElem_toArray, List.getElem_cons_zero, List.getElem_cons_succ, List.setIfInBounds_toArray, List.set_cons_zero, List.set_cons_succ]
  refine wpAnyH_take (i := 3) (v := ?_) rfl (by kernel_rfl) (by kernel_rfl) (by kernel_rfl) (fun _ _ _ h => h) (Or.inl ⟨by rfl, ?_⟩) hHeld ?_
  rotate_left
  · (intro wq hSw; (try dsimp only at hSw); (try obtain ⟨s0, s1, s2⟩ := hSw); (go_simp <;> with_reducible rfl))
  try simp only [Act.put, List.getElem_toArray, List.getElem_cons_zero, List.getElem_cons_succ, List.setIfInBounds_toArray, List.set_cons_zero, List.set_cons_succ]
  refine wpAnyH_take (i := 4) (v := ?_) rfl (by kernel_rfl) (by kernel_rfl) (by kernel_rfl) (fun _ _ _ h => h) (Or.inl ⟨by rfl, ?_⟩) hHeld ?_
  rotate_left
  · (intro wq hSw; (try dsimp only at hSw); (try obtain ⟨s0, s1, s2⟩ := hSw); (go_simp <;> with_reducible rfl))
  try simp only [Act.put, List.getElem_toArray, List.getElem_cons_zero, List.getElem_cons_succ, List.setIfInBounds_toArray, List.set_cons_zero, List.set_cons_succ]
  refine wpAnyH_take (i := 6) (v := ?_) rfl (by kernel_rfl) (by kernel_rfl) (by kernel_rfl) (fun _ _ _ h => h) (Or.inl ⟨by rfl, ?_⟩) hHeld ?_
  rotate_left
  · (intro wq hSw; (try dsimp only at hSw); (try obtain ⟨s0, s1, s2⟩ := hSw); (go_simp <;> with_reducible rfl))
  try simp only [Act.put, List.getElem_toArray, List.getElem_cons_zero, List.getElem_cons_succ, List.setIfInBounds_toArray, List.set_cons_zero, List.set_cons_succ]
  refine wpAnyH_ready (rs := [5]) (by kernel_rfl) (by simp) ?_
  refine AllReadyH.cons rfl (fun K hK => ?_) AllReadyH.nil
  go_simp
  refine (sclone_any nm _ (by omega)).mono ?_
  rintro _ w1 ⟨rfl, hB⟩
  have hB0 : Below w.heap.size w w1 := ⟨hB.os, hB.tape, hB.output, hB.size, hB.block⟩
  have hD := H.out.below hB0
  have c31 := hD.cell 3 (.map (some S.m)) rfl
  obtain ⟨w2, hw2⟩ : ∃ w2, w2 = putM w1 S nm f := ⟨_, rfl⟩
  have hput : (Instr.mapUpdate 57 (.map (some S.m)) (.string nm) (.pointer (some ⟨f, 0, none⟩))).run Tryz.prog w1 = .ok () w2 := by rw [hw2]; exact hD.put HX.out f
  have HB := hide hB0
  have hdm : S.d ≠ S.m := fun e => by have := H.out.mp; rw [← e, H.out.dk] at this; simp at this
  have c33 : w2.cell? ⟨S.d, 3, none⟩ = some (.map (some S.m)) := by
    rw [hw2, World.cell?_of_block (w := w1) (w' := putM w1 S nm f) (a := ⟨S.d, 3, none⟩) (Array.getElem?_setIfInBounds_ne (Ne.symm hdm))]; exact c31
  have HW2 := hide hw2
  clear hB hB0 hD hdm hw2
  refine hK.out _ _ c31 (fun hHeld => ?_)
  clear hK K
  try simp only [Act.put, List.getElem_toArray, List.getElem_cons_zero, List.getElem_cons_succ, List.setIfInBounds_toArray, List.set_cons_zero, List.set_cons_succ]
  refine wpAnyH_ready (rs := [7]) (by kernel_rfl) (by simp) ?_
  refine AllReadyH.cons rfl (fun K hK => ?_) AllReadyH.nil
  go_simp
  refine hK.out _ _ c33 (fun hHeld => ?_)
  clear hK K
  try simp only [Act.put, List.getElem_toArray, List.getElem_cons_zero, List.getElem_cons_succ, List.setIfInBounds_toArray, List.set_cons_zero, List.set_cons_succ]
  refine wpAnyH_done (by kernel_rfl) ?_ _
  go_end0
  exact ⟨rfl, w1, HB.out, HW2.out⟩

theorem Con.tot_upd {c : Con} (hn : (c.map (·.1)).Nodup) {nm : ByteArray} {a : List Nat} {su : Nat} (hx : (nm, a, su) ∈ c) (b : List Nat) (t : Nat) : Con.tot (Con.upd c nm fun _ => (b, t)) + a.length = Con.tot c + b.length := by
  induction c with
  | nil => simp at hx
  | cons y l ih =>
    rw [List.map_cons, List.nodup_cons] at hn
    rcases List.mem_cons.1 hx with rfl | hx
    · have : Con.upd l nm (fun _ => (b, t)) = l := by
        unfold Con.upd
        conv => rhs; rw [← List.map_id l]
        apply List.map_congr_left
        intro z hz
        rw [if_neg (fun e => hn.1 (by rw [← e]; exact List.mem_map.2 ⟨z, hz, rfl⟩))]; rfl
      rw [Con.upd, List.map_cons, if_pos rfl]
      show (b.length + Con.tot (Con.upd l nm fun _ => (b, t))) + a.length = a.length + Con.tot l + b.length
      rw [this]; omega
    · have hne : y.1 ≠ nm := fun e => hn.1 (by rw [e]; exact List.mem_map.2 ⟨_, hx, rfl⟩)
      have := ih hn.2 hx
      rw [Con.upd, List.map_cons, if_neg hne]
      show (y.2.1.length + Con.tot (Con.upd l nm fun _ => (b, t))) + a.length = y.2.1.length + Con.tot l + b.length
      omega

theorem con_nodup {B : Nat} {w : World} {lk : Int} {S : DS} (h : Dk B w lk S) : (S.ps.con.map (·.1)).Nodup := by
  have := h.nd
  unfold DS.ps
  simpa [Function.comp_def, Fi.con] using this

theorem con_mem {S : DS} {x : Fi} (hx : x ∈ S.L) : (x.nm, x.bs, x.su) ∈ S.ps.con := List.mem_map.2 ⟨x, hx, rfl⟩

/-- The disk's blocks behind a file's change. -/
theorem fp_upd {S : DS} {x : Fi} (hn : (S.L.map (·.nm)).Nodup) (hx : x ∈ S.L) (v2 : Value) (bs2 : List Nat) (su2 : Nat) {k : Nat} (h : Fp { S with L := updF S.L x.nm fun y => { y with v := v2, bs := bs2, su := su2 } } k) : Fp S k ∨ v2.ownBlock = some k := by
  rcases h with h | h | ⟨y, hy, h⟩
  · exact .inl (.inl h)
  · exact .inl (.inr (.inl h))
  · rcases (mem_updF hn hx _).1 hy with rfl | ⟨hy, _⟩
    · rcases h with h | h
      · exact .inl (.inr (.inr ⟨x, hx, .inl h⟩))
      · exact .inr h
    · exact .inl (.inr (.inr ⟨y, hy, h⟩))

theorem ps_upd {S : DS} (nm : ByteArray) (v2 : Value) (bs2 : List Nat) (su2 : Nat) : ({ S with L := updF S.L nm fun y => { y with v := v2, bs := bs2, su := su2 } } : DS).ps = { S.ps with con := Con.upd S.ps.con nm fun _ => (bs2, su2) } := by
  unfold DS.ps
  congr 1
  unfold updF Con.upd
  rw [List.map_map, List.map_map]
  apply List.map_congr_left
  intro y _
  by_cases e : y.nm = nm <;> simp [e, Fi.con]

/-- Bytes laid behind a file that is there. -/
theorem Dk.laid {B : Nat} {w w2 : World} {lk : Int} {S : DS} (h : Dk B w lk S) {x : Fi} (hx : x ∈ S.L) (bs : List Nat) (v2 : Value) (ho : w2.ownsRow B 5 1 v2 (x.bs ++ bs).length (bytesV (x.bs ++ bs))) (hg : w.grownBy w2 x.v.ownBlock) (hat : v2.ownBlock = x.v.ownBlock ∨ v2.ownBlock = some w.heap.size) (hb : ∀ n ∈ bs, n < 256) (hr : tot S.L + bs.length ≤ S.room) :
    ∃ S' : DS, S'.d = S.d ∧ S'.ps = { S.ps with con := Con.upd S.ps.con x.nm fun _ => (x.bs ++ bs, x.su) } ∧ Dk B (w2.setCell ⟨x.f, 0, none⟩ v2) lk S' ∧ Fr w (Fp S) (w2.setCell ⟨x.f, 0, none⟩ v2) (Fp S') := by
  have hxf := heap_lt (h.fl x hx)
  have hvf : ∀ y ∈ S.L, y.v.ownBlock ≠ some x.f := fun y hy e => by
    rcases (h.ow y hy).2 with ⟨e1, _⟩ | ⟨g', cap, cur, e1, _, hh, _⟩
    · rw [e1] at e; simp [Value.ownBlock] at e
    · rw [e1] at e; simp [Value.ownBlock] at e; subst e; rw [h.fl x hx] at hh; simp at hh
  have hf2 : w2.heap[x.f]? = some (.cells #[x.v, .int .i64 (x.su : Int)] 79 (0, 0)) := (hg.block x.f hxf (fun e => hvf x hx e.symm)).trans (h.fl x hx)
  have hv2f : v2.ownBlock ≠ some x.f := fun e => by
    rcases ho.2 with ⟨e1, _⟩ | ⟨g', cap, cur, e1, _, hh, _⟩
    · rw [e1] at e; simp [Value.ownBlock] at e
    · rw [e1] at e; simp [Value.ownBlock] at e; subst e; rw [hf2] at hh; simp at hh
  have hk : ∀ k, k < w.heap.size → k ≠ x.f → x.v.ownBlock ≠ some k → (w2.setCell ⟨x.f, 0, none⟩ v2).heap[k]? = w.heap[k]? := fun k hk h1 h2 => by
    rw [Below.heap_setCell _ _ _ _ h1]; exact hg.block k hk (fun e => h2 e.symm)
  have hv : ∀ g, v2.ownBlock = some g → x.v.ownBlock = some g ∨ w.heap.size ≤ g := fun g hg2 => by
    rcases hat with e | e
    · exact .inl (by rw [← e]; exact hg2)
    · rw [e] at hg2; exact .inr (by simpa using Nat.le_of_eq (Option.some.inj hg2))
  refine ⟨{ S with L := updF S.L x.nm fun y => { y with v := v2, bs := x.bs ++ bs, su := x.su } }, rfl, ps_upd x.nm v2 (x.bs ++ bs) x.su, h.upd hx v2 (x.bs ++ bs) x.su ?_ ?_ (fun k hk1 h1 h2 => hk k (h.fpLt k hk1) h1 h2) hv ?_ ?_ ?_, ?_⟩
  · rw [heap_set_at hf2]; rfl
  · exact ownsRow_keep ho fun g hg' => Below.heap_setCell _ _ _ _ (fun e => hv2f (by have e' : g = x.f := e; rw [← e']; exact hg'))
  · intro n hn
    rcases List.mem_append.1 hn with hn | hn
    · exact h.by_ x hx n hn
    · exact hb n hn
  · have := h.su x hx; rw [List.length_append]; omega
  · have := Con.tot_upd (con_nodup h) (con_mem hx) (x.bs ++ bs) x.su
    rw [List.length_append] at this
    rw [tot_con] at hr
    show Con.tot (Con.upd (S.L.map Fi.con) x.nm fun _ => (x.bs ++ bs, x.su)) ≤ S.room
    have e : S.ps.con = S.L.map Fi.con := rfl
    rw [e] at this
    omega
  · refine ⟨hg.os, hg.tape, hg.output, Nat.le_trans hg.size (by simp [World.setCell]), fun k hk1 hn => ⟨fun hf => ?_, hk k hk1 (fun e => hn (.inr (.inr ⟨x, hx, .inl e⟩))) (fun e => hn (.inr (.inr ⟨x, hx, .inr e⟩)))⟩⟩
    rcases fp_upd h.nd hx v2 _ _ hf with hf | hf
    · exact hn hf
    · rcases hv k hf with e | e
      · exact hn (.inr (.inr ⟨x, hx, .inr e⟩))
      · omega

end Go.Proofs.YtlandfghodfjdaaGreat

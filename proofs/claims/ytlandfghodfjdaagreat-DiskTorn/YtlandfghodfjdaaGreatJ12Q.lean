/- Sync, Remove, Rename: whatever is asked. -/
import Derived.Test.YtlandfghodfjdaaGreatJ12O
/- Rename's own part. -/
namespace Go.Proofs.YtlandfghodfjdaaGreat
open Go.RowKit
open Go.MuLone (lock_free unlock_deferred run_callFunc_enter)
set_option linter.unusedVariables false
set_option linter.unusedSimpArgs false

set_option maxRecDepth 100000 in
theorem put_old {B : Nat} {S : DS} {lk : Int} (w : World) (h : Dk B w lk S) (y : Fi) (hx : y ∈ S.L) (hs : y.nm.size ≤ 1000) (x : Fi) :
    Calls Tryz.prog 61 #[.pointer (some ⟨S.d, 0, none⟩), .string y.nm, .pointer (some ⟨x.f, 0, none⟩)] w fun e w' => e = .returned (.tuple #[]) ∧ ∃ w1, Below w.heap.size w w1 ∧ w' = replM w1 S y.nm x := by
  have H := hide h
  have HX := hide hx
  have c3 := h.cell 3 (.map (some S.m)) rfl
  have c3d : w.drew.cell? ⟨S.d, 3, none⟩ = some (.map (some S.m)) := c3
  clear h hx
  go_enter Tryz.func61, Tryz.ntmps61
  refine wp_region_held_drew (S := fun w' => w'.cell? ⟨S.d, 3, none⟩ = some (.map (some S.m))) (by kernel_rfl) c3d (fun hHeld => ?_)
  refine wpAnyH_take (i := 0) (v := ?_) rfl (by kernel_rfl) (by kernel_rfl) (by kernel_rfl) (fun _ _ _ h => h) (Or.inl ⟨by rfl, ?_⟩) hHeld ?_
  rotate_left
  · (intro wq hSw; (try dsimp only at hSw); (try obtain ⟨s0, s1, s2⟩ := hSw); (go_simp <;> with_reducible rfl))
  try simp only [Act.put, List.getElem_toArray, List.getElem_cons_zero, List.getElem_cons_succ, List.setIfInBounds_toArray, List.set_cons_zero, List.set_cons_succ]
  refine wpAnyH_take (i := 1) (v := ?_) rfl (by kernel_rfl) (by kernel_rfl) (by kernel_rfl) (fun _ _ _ h => h) (Or.inl ⟨by rfl, ?_⟩) hHeld ?_
  rotate_left
  · (intro wq hSw; (try dsimp only at hSw); (try obtain ⟨s0, s1, s2⟩ := hSw); (go_simp <;> with_reducible rfl))
  try simp only [Act.put, List.getElem_toArray, List.getElem_cons_zero, List.getElem_cons_succ, List.setIfInBounds_toArray, List.set_cons_zero, List.set_cons_succ]
  refine wpAnyH_take (i := 2) (v := ?_) rfl (by kernel_rfl) (by kernel_rfl) (by kernel_rfl) (fun _ _ _ h => h) (Or.inl ⟨by rfl, ?_⟩) hHeld ?_
  rotate_left
  · (intro wq hSw; (try dsimp only at hSw); (try obtain ⟨s0, s1, s2⟩ := hSw); (go_simp <;> with_reducible rfl))
  try simp only [Act.put, List.getElem_toArray, List.getElem_cons_zero, List.getElem_cons_succ, List.setIfInBounds_toArray, List.set_cons_zero, List.set_cons_succ]
  refine wpAnyH_take (i := 3) (v := ?_) rfl (by kernel_rfl) (by kernel_rfl) (by kernel_rfl) (fun _ _ _ h => h) (Or.inl ⟨by rfl, ?_⟩) hHeld ?_
  rotate_left
  · (intro wq hSw; (try dsimp only at hSw); (try obtain ⟨s0, s1, s2⟩ := hSw); (go_simp <;> with_reducible rfl))
  try simp only [Act.put, List.getElem_toArray, List.getElem_cons_zero, List.getElem_cons_succ, List.setIfInBounds_toArray, List.set_cons_zero, List.set_cons_succ]
  refine wpAnyH_take (i := 4) (v := ?_) rfl (by kernel_rfl) (by kernel_rfl) (by kernel_rfl) (fun _ _ _ h => h) (Or.inl ⟨by rfl, ?_⟩) hHeld ?_
  rotate_left
  · (intro wq hSw; (try dsimp only at hSw); (try obtain ⟨s0, s1, s2⟩ := hSw); (go_simp <;> with_reducible rfl))
  try simp only [Act.put, List.getElem_toArray, List.getElem_cons_zero, List.getElem_cons_succ, List.setIfInBounds_toArray, List.set_cons_zero, List.set_cons_succ]
  refine wpAnyH_take (i := 6) (v := ?_) rfl (by kernel_rfl) (by kernel_rfl) (by kernel_rfl) (fun _ _ _ h => h) (Or.inl ⟨by rfl, ?_⟩) hHeld ?_
  rotate_left
  · (intro wq hSw; (try dsimp only at hSw); (try obtain ⟨s0, s1, s2⟩ := hSw); (go_simp <;> with_reducible rfl))
  try simp only [Act.put, List.getElem_toArray, List.getElem_cons_zero, List.getElem_cons_succ, List.setIfInBounds_toArray, List.set_cons_zero, List.set_cons_succ]
  refine wpAnyH_ready (rs := [5]) (by kernel_rfl) (by simp) ?_
  refine AllReadyH.cons rfl (fun K hK => ?_) AllReadyH.nil
  go_simp
  refine (sclone_any y.nm _ (by omega)).mono ?_
  rintro _ w1 ⟨rfl, hB⟩
  have hB0 : Below w.heap.size w w1 := ⟨hB.os, hB.tape, hB.output, hB.size, hB.block⟩
  have hD := H.out.below hB0
  have c31 := hD.cell 3 (.map (some S.m)) rfl
  obtain ⟨w2, hw2⟩ : ∃ w2, w2 = replM w1 S y.nm x := ⟨_, rfl⟩
  have hput : (Instr.mapUpdate 57 (.map (some S.m)) (.string y.nm) (.pointer (some ⟨x.f, 0, none⟩))).run Tryz.prog w1 = .ok () w2 := by rw [hw2]; exact hD.update HX.out x
  have HB := hide hB0
  have hdm : S.d ≠ S.m := fun e => by have := H.out.mp; rw [← e, H.out.dk] at this; simp at this
  have c33 : w2.cell? ⟨S.d, 3, none⟩ = some (.map (some S.m)) := by
    rw [hw2, World.cell?_of_block (w := w1) (w' := replM w1 S y.nm x) (a := ⟨S.d, 3, none⟩) (Array.getElem?_setIfInBounds_ne (Ne.symm hdm))]; exact c31
  have HW2 := hide hw2
  clear hB hB0 hD hdm hw2
  refine hK.out _ _ c31 (fun hHeld => ?_)
  clear hK K
  try simp only [Act.put, List.getElem_toArray, List.getElem_cons_zero, List.getElem_cons_succ, List.setIfInBounds_toArray, List.set_cons_zero, List.set_cons_succ]
  refine wpAnyH_ready (rs := [7]) (by kernel_rfl) (by simp) ?_
  refine AllReadyH.cons rfl (fun K hK => ?_) AllReadyH.nil
  go_simp
  refine hK.out _ _ c33 (fun hHeld => ?_)
  clear hK K
  try simp only [Act.put, List.getElem_toArray, List.getElem_cons_zero, List.getElem_cons_succ, List.setIfInBounds_toArray, List.set_cons_zero, List.set_cons_succ]
  refine wpAnyH_done (by kernel_rfl) ?_ _
  go_end0
  exact ⟨rfl, w1, HB.out, HW2.out⟩

/-- A file is put under a name, as plain data. -/
def Con.puts (c : Con) (tn : ByteArray) (q : List Nat × Nat) : Con := if c.any (fun y => decide (y.1 = tn)) then Con.upd c tn (fun _ => q) else c ++ [(tn, q)]
def Con.get (c : Con) (nm : ByteArray) : List Nat × Nat := ((c.find? fun y => decide (y.1 = nm)).map (·.2)).getD ([], 0)
def renameF (nm tn : ByteArray) : Int → Con → Con := fun _ c => Con.puts (Con.drop c nm) tn (Con.get c nm)

theorem con_get {B : Nat} {w : World} {lk : Int} {S : DS} (h : Dk B w lk S) {x : Fi} (hx : x ∈ S.L) : Con.get S.ps.con x.nm = (x.bs, x.su) := by
  unfold Con.get
  cases hf : S.ps.con.find? (fun y => decide (y.1 = x.nm)) with
  | none => exact absurd (List.find?_eq_none.1 hf _ (con_mem hx)) (by simp)
  | some y =>
    have h1 := List.find?_some hf
    have h2 := List.mem_of_find?_eq_some hf
    obtain ⟨z, hz, rfl⟩ := List.mem_map.1 h2
    rw [ent_inj h.nd hz hx (of_decide_eq_true h1)]
    rfl

section
variable {B : Nat} {w : World} {lk : Int} {S : DS} {x : Fi}

/-- A loose file is put under a name. -/
theorem put_loose (h : Dk B w lk S) (l : Lo B w x S) (tn : ByteArray) (hs : tn.size ≤ 1000) :
    Calls Tryz.prog 61 #[.pointer (some ⟨S.d, 0, none⟩), .string tn, .pointer (some ⟨x.f, 0, none⟩)] w fun e w' => e = .returned (.tuple #[]) ∧ ∃ S' : DS, S'.d = S.d ∧ S'.ps = { S.ps with con := Con.puts S.ps.con tn (x.bs, x.su) } ∧ Dk B w' lk S' ∧ (w'.os = w.os ∧ w'.tape = w.tape ∧ w'.output = w.output ∧ w.heap.size ≤ w'.heap.size) ∧ (∀ k, k < w.heap.size → k ≠ S.m → w'.heap[k]? = w.heap[k]?) ∧ ∀ k, Fp S' k → Fp S k ∨ k = x.f ∨ x.v.ownBlock = some k := by
  by_cases hy : ∃ y ∈ S.L, y.nm = tn
  · obtain ⟨y, hy, rfl⟩ := hy
    refine (put_old w h y hy hs x).mono ?_
    rintro e w' ⟨rfl, w1, hb, rfl⟩
    have h1 := (h.below hb).replOld (l.below hb) hy
    refine ⟨rfl, { S with L := replF S.L y.nm x }, rfl, ?_, h1.1, ⟨hb.os, hb.tape, hb.output, Nat.le_trans hb.size (by simp [replM])⟩, fun k hk hkm => (h1.2 k hkm).trans (hb.block k hk), fun k hf => ?_⟩
    · have ha : S.ps.con.any (fun z => decide (z.1 = y.nm)) = true := List.any_eq_true.2 ⟨_, con_mem hy, by simp⟩
      unfold Con.puts
      rw [if_pos ha]
      have hc : (replF S.L y.nm x).map Fi.con = Con.upd (S.L.map Fi.con) y.nm (fun _ => (x.bs, x.su)) := by
        unfold replF updF Con.upd
        rw [List.map_map, List.map_map]
        apply List.map_congr_left
        intro z _
        by_cases e : z.nm = y.nm <;> simp [e, Fi.con]
      unfold DS.ps
      dsimp only
      rw [hc]
    · rcases hf with e | e | ⟨z, hz, e⟩
      · exact .inl (.inl e)
      · exact .inl (.inr (.inl e))
      · rcases (mem_updF h.nd hy _).1 hz with rfl | ⟨hz, _⟩
        · exact .inr e
        · exact .inl (.inr (.inr ⟨z, hz, e⟩))
  · have hx' : ∀ y ∈ S.L, y.nm ≠ tn := fun y h1 e => hy ⟨y, h1, e⟩
    refine (put_any w h tn hx' hs x.f).mono ?_
    rintro e w' ⟨rfl, w1, hb, rfl⟩
    have h1 := (h.below hb).addOld (l.below hb) hx'
    refine ⟨rfl, { S with L := S.L ++ [{ x with nm := tn, born := S.clock }], clock := S.clock + 1 }, rfl, ?_, h1.1, ⟨hb.os, hb.tape, hb.output, Nat.le_trans hb.size (by simp [putM])⟩, fun k hk hkm => (h1.2 k hkm).trans (hb.block k hk), fun k hf => ?_⟩
    · have ha : ¬ S.ps.con.any (fun z => decide (z.1 = tn)) = true := fun e => by
        obtain ⟨z, hz, h2⟩ := List.any_eq_true.1 e
        obtain ⟨q, hq, rfl⟩ := List.mem_map.1 hz
        exact hx' q hq (of_decide_eq_true h2)
      unfold Con.puts
      rw [if_neg ha]
      unfold DS.ps
      dsimp only
      rw [List.map_append]
      rfl
    · rcases hf with e | e | ⟨z, hz, e⟩
      · exact .inl (.inl e)
      · exact .inl (.inr (.inl e))
      · rcases List.mem_append.1 hz with hz | hz
        · exact .inl (.inr (.inr ⟨z, hz, e⟩))
        · simp at hz; subst hz
          exact .inr e
end

set_option maxRecDepth 100000 in
theorem renameG_any {B : Nat} {S : DS} {lk : Int} (w : World) (h : Dk B w lk S) (x : Fi) (hx : x ∈ S.L) (tn : ByteArray) (hs : tn.size ≤ 1000) (kp : Int) (g1 g2 g3 g4 : Nat) (n1 : ¬ Fp S g1) (n2 : ¬ Fp S g2) (n3 : ¬ Fp S g3) (n4 : ¬ Fp S g4) (c1 : w.cell? ⟨g1, 0, none⟩ = some (.pointer (some ⟨S.d, 0, none⟩))) (c2 : w.cell? ⟨g2, 0, none⟩ = some (.string x.nm)) (c3 : w.cell? ⟨g3, 0, none⟩ = some (.string tn)) (c4 : w.cell? ⟨g4, 0, none⟩ = some (.pointer (some ⟨x.f, 0, none⟩))) :
    Calls Tryz.prog 60 #[.int .i64 kp, .pointer (some ⟨g1, 0, none⟩), .pointer (some ⟨g2, 0, none⟩), .pointer (some ⟨g3, 0, none⟩), .pointer (some ⟨g4, 0, none⟩)] w fun e w' => e = .returned (.tuple #[]) ∧ ∃ S' : DS, S'.d = S.d ∧ S'.ps = { S.ps with con := renameF x.nm tn kp S.ps.con } ∧ Dk B w' lk S' ∧ Fr w (Fp S) w' (Fp S') := by
  have d1 : w.drew.cell? ⟨g1, 0, none⟩ = some (.pointer (some ⟨S.d, 0, none⟩)) := c1
  have d2 : w.drew.cell? ⟨g2, 0, none⟩ = some (.string x.nm) := c2
  have d3 : w.drew.cell? ⟨S.d, 3, none⟩ = some (.map (some S.m)) := h.drew.cell 3 _ rfl
  have hdel := fun ty => h.drew.del hx ty
  have HD := hide (h.drew.dropped x.nm)
  have e1 : (dropM w.drew S x.nm).cell? ⟨g1, 0, none⟩ = some (.pointer (some ⟨S.d, 0, none⟩)) := HD.out.2.cell (a := ⟨g1, 0, none⟩) n1 d1
  have e2 : (dropM w.drew S x.nm).cell? ⟨g2, 0, none⟩ = some (.string x.nm) := HD.out.2.cell (a := ⟨g2, 0, none⟩) n2 d2
  have e3 : (dropM w.drew S x.nm).cell? ⟨S.d, 3, none⟩ = some (.map (some S.m)) := HD.out.1.cell 3 _ rfl
  have e4 : (dropM w.drew S x.nm).cell? ⟨g3, 0, none⟩ = some (.string tn) := HD.out.2.cell (w := w.drew) (a := ⟨g3, 0, none⟩) n3 c3
  have e5 : (dropM w.drew S x.nm).cell? ⟨g4, 0, none⟩ = some (.pointer (some ⟨x.f, 0, none⟩)) := HD.out.2.cell (w := w.drew) (a := ⟨g4, 0, none⟩) n4 c4
  have HPT : Hid (Calls Tryz.prog 61 #[.pointer (some ⟨S.d, 0, none⟩), .string tn, .pointer (some ⟨x.f, 0, none⟩)] (dropM w.drew S x.nm) fun e w' => e = .returned (.tuple #[]) ∧ ∃ S' : DS, S'.d = S.d ∧ S'.ps = { S.ps with con := renameF x.nm tn kp S.ps.con } ∧ Dk B w' lk S' ∧ Fr w (Fp S) w' (Fp S')) := by
    refine (put_loose HD.out.1 (h.drew.loose hx) tn hs).mono ?_
    rintro e w' ⟨rfl, S', k1, k2, k3, k4, k5, k6⟩
    refine ⟨rfl, S', k1, ?_, k3, k4.1, k4.2.1, k4.2.2.1, Nat.le_trans HD.out.2.size k4.2.2.2, fun k hk hn => ⟨fun hf => ?_, ?_⟩⟩
    · rw [k2, ps_drop]
      unfold renameF
      rw [con_get h hx]
    · rcases k6 k hf with e | e
      · exact (HD.out.2.block k hk hn).1 e
      · exact hn (.inr (.inr ⟨x, hx, e⟩))
    · exact (k5 k (Nat.lt_of_lt_of_le hk HD.out.2.size) fun e => hn (.inr (.inl e))).trans (HD.out.2.block k hk hn).2
  clear h
  go_enter Tryz.func60, Tryz.ntmps60
  go_upto_region 0 with fail
  refine wp_region_held_drew (S := fun w' => w'.cell? ⟨g1, 0, none⟩ = some (.pointer (some ⟨S.d, 0, none⟩)) ∧ w'.cell? ⟨g2, 0, none⟩ = some (.string x.nm) ∧ w'.cell? ⟨S.d, 3, none⟩ = some (.map (some S.m))) (by kernel_rfl) ⟨d1, d2, d3⟩ (fun hHeld => ?_)
  refine wpAnyH_take (i := 0) (v := ?_) rfl (by kernel_rfl) (by kernel_rfl) (by kernel_rfl) (fun _ _ _ h => h) (Or.inl ⟨by rfl, ?_⟩) hHeld ?_
  rotate_left
  · (intro wq hSw; (try dsimp only at hSw); (try obtain ⟨s0, s1, s2⟩ := hSw); (go_simp <;> with_reducible rfl))
  try simp only [Act.put, List.getElem_toArray, List.getElem_cons_zero, List.getElem_cons_succ, List.setIfInBounds_toArray, List.set_cons_zero, List.set_cons_succ]
  refine wpAnyH_take (i := 1) (v := ?_) rfl (by kernel_rfl) (by kernel_rfl) (by kernel_rfl) (fun _ _ _ h => h) (Or.inl ⟨by rfl, ?_⟩) hHeld ?_
  rotate_left
  · (intro wq hSw; (try dsimp only at hSw); (try obtain ⟨s0, s1, s2⟩ := hSw); (go_simp <;> with_reducible rfl))
  try simp only [Act.put, List.getElem_toArray, List.getElem_cons_zero, List.getElem_cons_succ, List.setIfInBounds_toArray, List.set_cons_zero, List.set_cons_succ]
  refine wpAnyH_take (i := 2) (v := ?_) rfl (by kernel_rfl) (by kernel_rfl) (by kernel_rfl) (fun _ _ _ h => h) (Or.inl ⟨by rfl, ?_⟩) hHeld ?_
  rotate_left
  · (intro wq hSw; (try dsimp only at hSw); (try obtain ⟨s0, s1, s2⟩ := hSw); (go_simp <;> with_reducible rfl))
  try simp only [Act.put, List.getElem_toArray, List.getElem_cons_zero, List.getElem_cons_succ, List.setIfInBounds_toArray, List.set_cons_zero, List.set_cons_succ]
  refine wpAnyH_take (i := 3) (v := ?_) rfl (by kernel_rfl) (by kernel_rfl) (by kernel_rfl) (fun _ _ _ h => h) (Or.inl ⟨by rfl, ?_⟩) hHeld ?_
  rotate_left
  · (intro wq hSw; (try dsimp only at hSw); (try obtain ⟨s0, s1, s2⟩ := hSw); (go_simp <;> with_reducible rfl))
  try simp only [Act.put, List.getElem_toArray, List.getElem_cons_zero, List.getElem_cons_succ, List.setIfInBounds_toArray, List.set_cons_zero, List.set_cons_succ]
  refine wpAnyH_take (i := 4) (v := ?_) rfl (by kernel_rfl) (by kernel_rfl) (by kernel_rfl) (fun _ _ _ h => h) (Or.inl ⟨by rfl, ?_⟩) hHeld ?_
  rotate_left
  · (intro wq hSw; (try dsimp only at hSw); (try obtain ⟨s0, s1, s2⟩ := hSw); (go_simp <;> with_reducible rfl))
  try simp only [Act.put, List.getElem_toArray, List.getElem_cons_zero, List.getElem_cons_succ, List.setIfInBounds_toArray, List.set_cons_zero, List.set_cons_succ]
  refine wpAnyH_ready (rs := [5]) (by kernel_rfl) (by simp) ?_
  refine AllReadyH.cons rfl (fun K hK => ?_) AllReadyH.nil
  rw [if_pos (by rfl)]
  unfold Oper.wp execOp
  simp only [resolve, invoke, builtin, Sem.run_bind, Sem.run_pure, Result.andThen_ok, List.map_toArray, List.map_cons, List.map_nil, Act.eval, List.getElem_toArray, List.getElem_cons_zero, List.getElem_cons_succ, Array.getD_eq_getD_getElem?, List.getElem?_toArray, List.getElem?_cons_succ, List.getElem?_cons_zero, Option.getD_some, hdel, Result.andThen, Oper.upon_value]
  refine hK.out _ _ ⟨e1, e2, e3⟩ (fun hHeld => ?_)
  clear hK K
  try simp only [Act.put, List.getElem_toArray, List.getElem_cons_zero, List.getElem_cons_succ, List.setIfInBounds_toArray, List.set_cons_zero, List.set_cons_succ]
  refine wpAnyH_done (by kernel_rfl) ?_ _
  go_wp2_with (go_at_call 61; refine HPT.out.mono ?_; rintro e w3 ⟨rfl, hR⟩; have HR := hide hR; clear hR)
  go_end0
  exact ⟨rfl, HR.out⟩

end Go.Proofs.YtlandfghodfjdaaGreat

namespace Go.Proofs.YtlandfghodfjdaaGreat
open Go.RowKit
open Go.MuLone (lock_free unlock_deferred run_callFunc_enter)
set_option linter.unusedVariables false
set_option linter.unusedSimpArgs false

/-- What is told where a file is wanted that may not be, or is not there. -/
def FindC (p : PS) (nm : ByteArray) (c : Int) : Prop := ¬ c = 0 ∧ (Refs p.off [nm] c ∨ (p.off = false ∧ okN nm ∧ ¬ p.con.has nm ∧ c = 102))

theorem finds_no {S : DS} {nm : ByteArray} {q : Option Addr} {c : Int} (h : Finds S nm (.pointer q) c) (hn : ¬ (S.off = false ∧ okN nm ∧ ∃ x ∈ S.L, x.nm = nm)) : q = none ∧ ¬ c = 0 ∧ FindC S.ps nm c := by
  rcases h with ⟨h1, h2, h3⟩ | ⟨_, h2, h3, x, hx, e, _⟩
  · refine ⟨by simpa using h2, h1, h1, ?_⟩
    rcases h3 with h3 | ⟨a1, a2, a3, a4⟩
    · exact .inl h3
    · exact .inr ⟨a1, a2, fun e => by obtain ⟨x, hx, e⟩ := (has_iff S nm).1 e; exact a3 x hx e, a4⟩
  · exact absurd ⟨h2, h3, x, hx, e⟩ hn

set_option maxRecDepth 100000 in
theorem sync_none {B : Nat} {S : DS} (w : World) (h : Dk B w 0 S) (nm : ByteArray) (hz : nm.size ≤ 140737488355328) (hn : ¬ (S.off = false ∧ okN nm ∧ ∃ x ∈ S.L, x.nm = nm)) :
    Calls Tryz.prog 25 #[.pointer (some ⟨S.d, 0, none⟩), .string nm] w fun e w' => CodeE (fun c => FindC S.ps nm c) e ∧ Dk B w' 0 S ∧ Fr w (Fp S) w' (Fp S) := by
  have hb0 : Below w.heap.size w w := Below.refl _ _
  have h0 := h.below hb0
  have l1 := h0.cell 0 (.int .i32 0) rfl
  have l2 := frozen_of h0.dk 0
  have hd := heap_lt h.dk
  have HE : Hid (Dk B (w.setCell ⟨S.d, 0, none⟩ (.int .i32 1)) 1 S ∧ Fr w (Fp S) (w.setCell ⟨S.d, 0, none⟩ (.int .i32 1)) (Fp S)) := ⟨h0.setLock 1, (Fr.of_below hb0).trans (Fr.setCell (.inl rfl) _)⟩
  have HN := hide hn
  clear h hb0 h0 hn
  go_enter_defers Tryz.func25, Tryz.ntmps25
  go_wp2_with (first | (go_at_call 28; refine (lock_free muLib ⟨S.d, 0, none⟩ _ l1 l2).mono ?_; rintro e w2 ⟨rfl, hw2⟩; have H2 : Hid (Dk B w2 1 S ∧ Fr w (Fp S) w2 (Fp S)) := (by rw [hw2]; exact HE.out); clear hw2 l1 l2) | (go_at_call 51; refine (find_any _ H2.out.1 nm hz).mono ?_; rintro e w3 ⟨hE, hB3⟩; obtain ⟨q, c, rfl, hF⟩ := hE; obtain ⟨rfl, hc0, hFC⟩ := finds_no hF HN.out; have HC := hide hFC; have H3 : Hid (Dk B w3 1 S ∧ Fr w (Fp S) w3 (Fp S)) := ⟨H2.out.1.below hB3, H2.out.2.trans (Fr.of_below hB3)⟩; clear hB3 hF hFC))
  have hB4 : Below w3.heap.size w3 (w3.alloc (.cells #[.pointer none] 80)) := (Below.refl _ _).alloc (Nat.le_refl _) _
  have H4 := hide (And.intro (H3.out.1.below hB4) (H3.out.2.trans (Fr.of_below hB4)))
  clear hB4
  have HZ := hide (door_of H4.out.1 rfl)
  refine leaves_cons (f := 29) (args := #[.pointer (some ⟨S.d, 0, none⟩)]) (by simp) (by simp [go_sem]) ?_
  refine (unlock_deferred muLib ⟨S.d, 0, none⟩ .returning _ ?_ ?_).mono ?_
  · exact HZ.out.1
  · exact HZ.out.2.1
  rintro e u' w'' ⟨rfl, rfl, rfl⟩
  exact ⟨_, results_tmp rfl _ _ _, ⟨c, rfl, HC.out⟩, HZ.out.2.2.1, H4.out.2.trans HZ.out.2.2.2⟩

set_option maxRecDepth 100000 in
theorem remove_none {B : Nat} {S : DS} (w : World) (h : Dk B w 0 S) (nm : ByteArray) (hz : nm.size ≤ 140737488355328) (hn : ¬ (S.off = false ∧ okN nm ∧ ∃ x ∈ S.L, x.nm = nm)) :
    Calls Tryz.prog 35 #[.pointer (some ⟨S.d, 0, none⟩), .string nm] w fun e w' => CodeE (fun c => FindC S.ps nm c) e ∧ Dk B w' 0 S ∧ Fr w (Fp S) w' (Fp S) := by
  have hb0 : Below w.heap.size w ((w.alloc (.cells #[.pointer (some ⟨S.d, 0, none⟩)] 27)).alloc (.cells #[.string nm] 9)) := (((Below.refl _ _).alloc (Nat.le_refl _) _).alloc (by simp <;> omega) _)
  have a0 : ((w.alloc (.cells #[.pointer (some ⟨S.d, 0, none⟩)] 27)).alloc (.cells #[.string nm] 9)).heap[w.heap.size]? = some (.cells #[.pointer (some ⟨S.d, 0, none⟩)] 27 (0, 0)) := (new_kept (heap_alloc_new w _) _)
  have a1 : ((w.alloc (.cells #[.pointer (some ⟨S.d, 0, none⟩)] 27)).alloc (.cells #[.string nm] 9)).heap[w.heap.size + 1]? = some (.cells #[.string nm] 9 (0, 0)) := (by have := heap_alloc_new (w.alloc (.cells #[.pointer (some ⟨S.d, 0, none⟩)] 27)) (.cells #[.string nm] 9); simpa using this)
  have h0 := h.below hb0
  have l1 := h0.cell 0 (.int .i32 0) rfl
  have l2 := frozen_of h0.dk 0
  have hd := heap_lt h.dk
  have HE : Hid (Dk B (((w.alloc (.cells #[.pointer (some ⟨S.d, 0, none⟩)] 27)).alloc (.cells #[.string nm] 9)).setCell ⟨S.d, 0, none⟩ (.int .i32 1)) 1 S ∧ Fr w (Fp S) (((w.alloc (.cells #[.pointer (some ⟨S.d, 0, none⟩)] 27)).alloc (.cells #[.string nm] 9)).setCell ⟨S.d, 0, none⟩ (.int .i32 1)) (Fp S) ∧ (((w.alloc (.cells #[.pointer (some ⟨S.d, 0, none⟩)] 27)).alloc (.cells #[.string nm] 9)).setCell ⟨S.d, 0, none⟩ (.int .i32 1)).cell? ⟨w.heap.size, 0, none⟩ = some (.pointer (some ⟨S.d, 0, none⟩)) ∧ (((w.alloc (.cells #[.pointer (some ⟨S.d, 0, none⟩)] 27)).alloc (.cells #[.string nm] 9)).setCell ⟨S.d, 0, none⟩ (.int .i32 1)).cell? ⟨w.heap.size + 1, 0, none⟩ = some (.string nm)) := ⟨h0.setLock 1, (Fr.of_below hb0).trans (Fr.setCell (.inl rfl) _), by rw [World.cell?_setCell_other _ _ _ _ (fun e => by injection e; omega), cell_of_row _ _ _ _ _ _ a0]; rfl, by rw [World.cell?_setCell_other _ _ _ _ (fun e => by injection e; omega), cell_of_row _ _ _ _ _ _ a1]; rfl⟩
  have HN := hide hn
  clear h hb0 h0 hn a0 a1
  go_enter_defers Tryz.func35, Tryz.ntmps35
  go_wp2_with (first | (go_at_call 28; refine (lock_free muLib ⟨S.d, 0, none⟩ _ l1 l2).mono ?_; rintro e w2 ⟨rfl, hw2⟩; have H2 : Hid (Dk B w2 1 S ∧ Fr w (Fp S) w2 (Fp S) ∧ w2.cell? ⟨w.heap.size, 0, none⟩ = some (.pointer (some ⟨S.d, 0, none⟩)) ∧ w2.cell? ⟨w.heap.size + 1, 0, none⟩ = some (.string nm)) := (by rw [hw2]; exact HE.out); obtain ⟨_, _, b0, b1⟩ := H2.out; clear hw2 l1 l2) | (go_at_call 51; refine (find_any _ H2.out.1 nm hz).mono ?_; rintro e w3 ⟨hE, hB3⟩; obtain ⟨q, c, rfl, hF⟩ := hE; obtain ⟨rfl, hc0, hFC⟩ := finds_no hF HN.out; have HC := hide hFC; have H3 : Hid (Dk B w3 1 S ∧ Fr w (Fp S) w3 (Fp S) ∧ w3.cell? ⟨w.heap.size, 0, none⟩ = some (.pointer (some ⟨S.d, 0, none⟩)) ∧ w3.cell? ⟨w.heap.size + 1, 0, none⟩ = some (.string nm)) := ⟨H2.out.1.below hB3, H2.out.2.1.trans (Fr.of_below hB3), (by rw [(hB3).cell (p := ⟨w.heap.size, 0, none⟩) (World.block_lt_of_cell? _ _ H2.out.2.2.1)]; exact H2.out.2.2.1), (by rw [(hB3).cell (p := ⟨w.heap.size + 1, 0, none⟩) (World.block_lt_of_cell? _ _ H2.out.2.2.2)]; exact H2.out.2.2.2)⟩; clear hB3 hF hFC))
  have HZ := hide (door_of H3.out.1 rfl)
  refine leaves_cons (f := 29) (args := #[.pointer (some ⟨S.d, 0, none⟩)]) (by simp) (by simp [go_sem]) ?_
  refine (unlock_deferred muLib ⟨S.d, 0, none⟩ .returning _ ?_ ?_).mono ?_
  · exact HZ.out.1
  · exact HZ.out.2.1
  rintro e u' w'' ⟨rfl, rfl, rfl⟩
  exact ⟨_, results_tmp rfl _ _ _, ⟨c, rfl, HC.out⟩, HZ.out.2.2.1, H3.out.2.1.trans HZ.out.2.2.2⟩

end Go.Proofs.YtlandfghodfjdaaGreat

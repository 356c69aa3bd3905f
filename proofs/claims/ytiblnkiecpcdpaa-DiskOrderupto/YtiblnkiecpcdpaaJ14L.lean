/- The law of orders: its states. -/
import Derived.Test.YtiblnkiecpcdpaaJ14K
namespace Go.Proofs.Ytiblnkiecpcdpaa
open Go.RowKit
set_option linter.unusedVariables false
set_option linter.unusedSimpArgs false

/-- The law's own files. -/
structure OrL (w1 : World) (v : Value) (B : Nat) (ps : List Pr) : Prop where
  inn : PIn w1 v ps
  by_ : PBy w1 ps
  off : ∀ q ∈ ps, Off0 q.2
  u8 : ∀ q ∈ ps, ∀ k, q.2.ownBlock = some k → (B ≤ k ∧ k < w1.heap.size) ∧ ∃ cur, w1.heap[k]? = some (.cells cur 5 (0, 0))
  own : w1.ownsRow B 45 2 v ps.length (fcells (ps.map (·.1)) (ps.map (·.2)))

theorem zip_fst {α β : Type} : ∀ (a : List α) (b : List β), b.length = a.length → (a.zip b).map (·.1) = a
  | [], _, _ => by simp
  | x :: a, y :: b, h => by simp [zip_fst a b (by simpa using h)]
  | _ :: _, [], h => by simp at h
theorem zip_snd {α β : Type} : ∀ (a : List α) (b : List β), b.length = a.length → (a.zip b).map (·.2) = b
  | [], [], _ => rfl
  | [], _ :: _, h => by simp at h
  | x :: a, y :: b, h => by simp [zip_snd a b (by simpa using h)]
  | _ :: _, [], h => by simp at h

theorem orL_of {w w1 : World} {v : Value} {B : Nat} {vals us : List Value} {fs : List (ByteArray × List Nat)} (h0 : FilesBy w vals fs) (h : FilesAt w1 B v us fs) (ho : ∀ u ∈ us, Off0 u) : OrL w1 v B (fs.zip us) ∧ (fs.zip us).map (·.1) = fs := by
  have hl : us.length = fs.length := by have := h.row.1; simpa using this
  have e1 := zip_fst fs us hl
  have e2 := zip_snd fs us hl
  have hlen : (fs.zip us).length = fs.length := by simp [hl]
  obtain ⟨k1, k2⟩ := h.toR
  have hat : ∀ q ∈ fs.zip us, ∃ i, i < fs.length ∧ fs.getD i (.empty, []) = q.1 ∧ us.getD i (.slice none 0 0) = q.2 := fun q hq => by
    obtain ⟨i, hi, e⟩ := List.mem_iff_getElem.1 hq
    have hi1 : i < fs.length := by rw [← hlen]; exact hi
    have hi2 : i < us.length := by omega
    rw [List.getElem_zip] at e
    refine ⟨i, hi1, ?_, ?_⟩
    · rw [← e]; simp [List.getD, List.getElem?_eq_getElem hi1]
    · rw [← e]; simp [List.getD, List.getElem?_eq_getElem hi2]
  have hmem : ∀ q ∈ fs.zip us, q.2 ∈ us := fun q hq => (List.of_mem_zip (a := q.1) (b := q.2) (by simpa using hq)).2
  have hidx : ∀ q ∈ fs.zip us, ∃ i, us[i]? = some q.2 ∧ (fs.map (·.2)).getD i [] = q.1.2 := fun q hq => by
    obtain ⟨i, hi, ea, eb⟩ := hat q hq
    have hi2 : i < us.length := by omega
    refine ⟨i, by rw [List.getElem?_eq_getElem hi2, ← eb]; simp [List.getD, List.getElem?_eq_getElem hi2], ?_⟩
    rw [← ea]; simp [List.getD, List.getElem?_eq_getElem hi]
  refine ⟨⟨by unfold PIn; rw [e1, e2]; exact k1, fun q hq => ?_, fun q hq => ho _ (hmem q hq), fun q hq k hk => ?_, by rw [e1, e2, hlen]; exact h.own⟩, e1⟩
  · obtain ⟨i, hi, ea, eb⟩ := hat q hq
    obtain ⟨h1, p', n', c', e, q1, q2, q3, q4, q5, q6⟩ := h0 i hi
    have hby := k2 i hi
    rw [ea, eb] at hby
    rw [ea] at h1 q5 q6
    obtain ⟨p2, l2, c2, e3, q7, q8⟩ := h.cap _ (hmem q hq)
    rw [e3] at hby ⊢
    have hl2 : l2 = q.1.2.length := by
      obtain ⟨_, _, e4, _⟩ := by_slice hby
      simp only [Value.slice.injEq] at e4
      exact e4.2.1
    exact ⟨h1, p2, l2, c2, rfl, by rw [hl2, ← q5]; exact q1, q7, q8, hby, hl2, q6⟩
  · obtain ⟨i, hi, _⟩ := hidx q hq
    exact ((h.row.2 i _ hi).2 k hk)

open Classical in
/-- What Load tells. -/
noncomputable def ldC (fs : List (ByteArray × List Nat)) (room : Int) : Int := if 1 ≤ room ∧ room ≤ 268435456 then (if LoadOk fs room.toNat then 0 else 106) else 100

theorem ldC_perm {a b : List (ByteArray × List Nat)} (h : a.Perm b) (room : Int) : ldC a room = ldC b room := by
  unfold ldC
  rw [show LoadOk a room.toNat = LoadOk b room.toNat from propext (loadOk_perm h _)]

def LdE (w : World) (fs : List (ByteArray × List Nat)) (room : Int) (e : Ending) (w' : World) : Prop :=
  (¬ ldC fs room = 0 ∧ e = .returned (.tuple #[.pointer none, .int .i64 (ldC fs room)]) ∧ Below w.heap.size w w') ∨
  (ldC fs room = 0 ∧ ∃ (S : DS) (r : Nat), room = (r : Int) ∧ e = .returned (.tuple #[.pointer (some ⟨S.d, 0, none⟩), .int .i64 0]) ∧ Dk w.heap.size w' 0 S ∧ S.ps = { con := con1 fs, room := r, off := false, ain := 0, keep := 0, lose := 0, wr := 0 } ∧ LoadOk fs r ∧ Below w.heap.size w w')

theorem or_load (w : World) (v : Value) (ps : List Pr) (h : PIn w v ps) (hb : PBy w ps) (hl : ps.length ≤ 400) (room : Int) :
    Calls Try.prog 19 #[v, .int .i64 room] w fun e w' => LdE w (ps.map (·.1)) room e w' := by
  by_cases hr : 1 ≤ room ∧ room ≤ 268435456
  · obtain ⟨r, rfl⟩ : ∃ r : Nat, room = (r : Int) := ⟨room.toNat, by omega⟩
    refine (load_room w v _ _ h (by rw [List.length_map]; omega) hb.by_ r (by omega) (by omega)).mono ?_
    rintro e w' (⟨h1, h2, h3⟩ | ⟨h1, S, h2, h3, h4, h5⟩)
    · have hc : ldC (ps.map (·.1)) (r : Int) = 106 := by
        unfold ldC
        rw [if_pos hr, Int.toNat_natCast, if_neg h1]
      exact .inl ⟨by rw [hc]; decide, by rw [hc]; exact h2, h3⟩
    · have hc : ldC (ps.map (·.1)) (r : Int) = 0 := by
        unfold ldC
        rw [if_pos hr, Int.toNat_natCast, if_pos h1]
      exact .inr ⟨hc, S, r, rfl, h2, h3, h4, h1, h5⟩
  · have hc : ldC (ps.map (·.1)) room = 100 := by unfold ldC; rw [if_neg hr]
    refine (load_bad w v room hr).mono ?_
    rintro e w' ⟨rfl, rfl⟩
    exact .inl ⟨by rw [hc]; decide, by rw [hc], Below.refl _ _⟩

theorem own_filesR' {w1 : World} {B : Nat} {v : Value} {us : List Value} {fs : List (ByteArray × List Nat)} {n : Nat} (hn : fs.length = n) (h : w1.ownsRow B 45 2 v n (fcells fs us)) (hl : us.length = fs.length) : FilesR w1 v us fs := by
  refine ⟨hl, ?_⟩
  rcases h.2 with ⟨e1, e2⟩ | ⟨g, cap, cur, e1, q1, q2, q3, q4, q5, q6⟩
  · exact ⟨none, 0, by rw [e1, hn, e2], fun i hi => by omega⟩
  · refine ⟨_, cap, by rw [hn]; exact e1, fun i hi => ⟨g, 0, rfl, ?_⟩⟩
    obtain ⟨k1, k2⟩ := fcells_at fs us i hl hi
    rw [← q6, List.getElem?_take, if_pos (by omega)] at k1 k2
    rw [cell_of_row _ _ _ _ _ _ q2, cell_of_row _ _ _ _ _ _ q2]
    exact ⟨by simpa using k1, by simpa using k2⟩

/-- While they are turned. -/
structure OrM (w1 wr : World) (v : Value) (k : Nat) (qs : List Pr) : Prop where
  own : wr.ownsRow w1.heap.size 45 2 v k (fcells (qs.map (·.1)) (qs.map (·.2)))
  len : qs.length = k
  bel : Below w1.heap.size w1 wr

theorem OrM.next {w1 wr w6 : World} {v v6 : Value} {k : Nat} {qs : List Pr} {X : Obj} {nm : ByteArray} {u : Value} {bs : List Nat} (h : OrM w1 wr v k qs) (ho : w6.ownsRow w1.heap.size 45 2 v6 (k + 1) (fcells (qs.map (·.1)) (qs.map (·.2)) ++ [.string nm, u])) (hg : (wr.alloc X).grownBy w6 v.ownBlock) : OrM w1 w6 v6 (k + 1) (qs ++ [((nm, bs), u)]) := by
  refine ⟨?_, by simp [h.len], ?_⟩
  · rw [List.map_append, List.map_append]
    show w6.ownsRow _ _ _ _ _ (fcells (qs.map (·.1) ++ [(nm, bs)]) (qs.map (·.2) ++ [u]))
    rw [fcells_more _ _ _ _ (by simp)]
    exact ho
  · have hsz : wr.heap.size ≤ w6.heap.size := Nat.le_trans (by simp) hg.size
    refine ⟨hg.os.trans h.bel.os, hg.tape.trans h.bel.tape, hg.output.trans h.bel.output, Nat.le_trans h.bel.size hsz, fun j hj => ?_⟩
    have hj2 : j < wr.heap.size := Nat.lt_of_lt_of_le hj h.bel.size
    exact ((hg.block j (by simp; omega) fun e => by have := (h.own.lt j e.symm).1; omega).trans (Below.heap_alloc _ _ _ hj2)).trans (h.bel.block j hj)

theorem OrM.pin {w1 wr : World} {v : Value} {k : Nat} {qs : List Pr} (h : OrM w1 wr v k qs) : PIn wr v qs := own_filesR' (by simp [h.len]) h.own (by simp)

end Go.Proofs.Ytiblnkiecpcdpaa

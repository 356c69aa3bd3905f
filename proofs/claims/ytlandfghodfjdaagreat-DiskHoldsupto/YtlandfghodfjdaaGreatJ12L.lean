/- Files: all that stands there. -/
import Derived.Test.YtlandfghodfjdaaGreatJ12K
namespace Go.Proofs.YtlandfghodfjdaaGreat
open Go.RowKit
open Go.MuLone (lock_free unlock_deferred run_callFunc_enter)
set_option linter.unusedVariables false
set_option linter.unusedSimpArgs false

/-- Rows of bytes of one's own. -/
def RowW (w : World) (lo hi : Nat) (vals : List Value) (rs : List (List Nat)) : Prop := vals.length = rs.length ∧ ∀ i v, vals[i]? = some v → IsBy w v (rs.getD i []) ∧ ∀ k, v.ownBlock = some k → (lo ≤ k ∧ k < hi) ∧ ∃ cs, w.heap[k]? = some (.cells cs 5 (0, 0))

theorem isBy_keepW {w w' : World} {v : Value} {bs : List Nat} (h : IsBy w v bs) (hk : ∀ k, v.ownBlock = some k → w'.heap[k]? = w.heap[k]?) : IsBy w' v bs := by
  rcases h with (h | ⟨g, o, cap, h1, h2⟩) | h
  · exact .inl (.inl h)
  · exact .inl (.inr ⟨g, o, cap, h1, fun i hi => by rw [World.cell?_of_block (w := w) (w' := w') (a := ⟨g, o + i, none⟩) (hk g (by rw [h1]; rfl))]; exact h2 i hi⟩)
  · exact .inr h

theorem RowW.keep8 {w w' : World} {lo hi hi' : Nat} {vals : List Value} {rs : List (List Nat)} (h : RowW w lo hi vals rs) (hk : ∀ k cs, lo ≤ k → k < hi → w.heap[k]? = some (.cells cs 5 (0, 0)) → w'.heap[k]? = w.heap[k]?) (h2 : hi ≤ hi') : RowW w' lo hi' vals rs :=
  ⟨h.1, fun i v hv => by
    obtain ⟨e1, e2⟩ := h.2 i v hv
    have e3 : ∀ k, v.ownBlock = some k → w'.heap[k]? = w.heap[k]? := fun k e => by
      obtain ⟨⟨a1, a2⟩, cs, a3⟩ := e2 k e
      exact hk k cs a1 a2 a3
    exact ⟨isBy_keepW e1 e3, fun k e => ⟨⟨(e2 k e).1.1, Nat.lt_of_lt_of_le (e2 k e).1.2 h2⟩, by obtain ⟨_, cs, a3⟩ := e2 k e; exact ⟨cs, (e3 k e).trans a3⟩⟩⟩⟩

theorem RowW.more {w : World} {lo hi : Nat} {vals : List Value} {rs : List (List Nat)} (h : RowW w lo hi vals rs) {v : Value} {r : List Nat} (hv : IsBy w v r ∧ ∀ k, v.ownBlock = some k → (lo ≤ k ∧ k < hi) ∧ ∃ cs, w.heap[k]? = some (.cells cs 5 (0, 0))) : RowW w lo hi (vals ++ [v]) (rs ++ [r]) := by
  refine ⟨by simp [h.1], fun i u hu => ?_⟩
  rcases Nat.lt_or_ge i vals.length with hi' | hi'
  · rw [List.getElem?_append_left hi'] at hu
    rw [show (rs ++ [r]).getD i [] = rs.getD i [] from by simp [List.getD, List.getElem?_append_left (by rw [← h.1]; exact hi')]]
    exact h.2 i u hu
  · rw [List.getElem?_append_right hi'] at hu
    have hi0 : i - vals.length = 0 := by
      rcases Nat.eq_zero_or_pos (i - vals.length) with h0 | h0
      · exact h0
      · rw [List.getElem?_eq_none (by simp; omega)] at hu; simp at hu
    rw [hi0] at hu
    simp at hu
    subst hu
    rw [show (rs ++ [r]).getD i [] = r from by
      have : i = rs.length := by rw [← h.1]; omega
      subst this
      simp [List.getD]]
    exact hv

/-- The cells of a row of files. -/
def fcells : List (ByteArray × List Nat) → List Value → List Value
  | x :: fs, u :: us => .string x.1 :: u :: fcells fs us
  | _, _ => []
theorem fcells_more : ∀ (fs : List (ByteArray × List Nat)) (us : List Value) (x : ByteArray × List Nat) (u : Value), us.length = fs.length → fcells (fs ++ [x]) (us ++ [u]) = fcells fs us ++ [.string x.1, u]
  | [], [], x, u, _ => rfl
  | y :: fs, v :: us, x, u, h => by simp [fcells, fcells_more fs us x u (by simpa using h)]
  | [], _ :: _, _, _, h => by simp at h
  | _ :: _, [], _, _, h => by simp at h

/-- A slice that may be cut. -/
def Cpd (u : Value) : Prop := ∃ (p : Option Addr) (l c : Nat), u = .slice p l c ∧ l ≤ c ∧ (p = none → c = 0)
theorem Cpd.of_own {w : World} {B : Nat} {t : TypeId} {sz : Nat} {u : Value} {n : Nat} {xs : List Value} (h : w.ownsRow B t sz u n xs) : Cpd u := by
  rcases h.2 with ⟨e1, _⟩ | ⟨g', cap, cur, e1, _, _, e3, _⟩
  · exact ⟨none, 0, 0, e1, Nat.le_refl _, fun _ => rfl⟩
  · exact ⟨_, n, cap, e1, e3, fun e => by simp at e⟩

/-- A row of files of one's own. -/
structure FilesAt (w : World) (lo : Nat) (v : Value) (vals : List Value) (fs : List (ByteArray × List Nat)) : Prop where
  own : w.ownsRow lo 74 2 v fs.length (fcells fs vals)
  row : RowW w lo w.heap.size vals (fs.map (·.2))
  cap : ∀ u ∈ vals, Cpd u

/-- The files of a disk by their names. -/
def bytesOf (S : DS) (nm : ByteArray) : List Nat := ((S.L.find? fun x => decide (x.nm = nm)).map (·.bs)).getD []
def filesOf (S : DS) (ns : List ByteArray) : List (ByteArray × List Nat) := ns.map fun n => (n, bytesOf S n)

theorem bytes_of {B : Nat} {w : World} {lk : Int} {S : DS} (h : Dk B w lk S) {x : Fi} (hx : x ∈ S.L) : bytesOf S x.nm = x.bs := by
  unfold bytesOf
  cases hf : S.L.find? (fun y => decide (y.nm = x.nm)) with
  | none => exact absurd (List.find?_eq_none.1 hf x hx) (by simp)
  | some y =>
    have h1 := List.find?_some hf
    have h2 := List.mem_of_find?_eq_some hf
    rw [ent_inj h.nd h2 hx (by simpa using h1)]
    rfl

/-- One more file. -/
theorem files_more {lo : Nat} {wk w3 w4 : World} {v v3 v6 : Value} {vals : List Value} {fs : List (ByteArray × List Nat)} {n : ByteArray} {r : List Nat} {X : Obj} (hlo : lo ≤ wk.heap.size) (h : FilesAt wk lo v vals fs) (hO : OB wk.heap.size wk r v3 w3)
    (ho4 : w4.ownsRow lo 74 2 v6 (fs.length + 1) (fcells fs vals ++ [.string n, v3])) (hg4 : (w3.alloc X).grownBy w4 v.ownBlock) :
    FilesAt w4 lo v6 (vals ++ [v3]) (fs ++ [(n, r)]) ∧ Below lo wk w4 := by
  have hb3 : Below wk.heap.size wk w3 := hO.bel
  have hsz4 : w3.heap.size ≤ w4.heap.size := Nat.le_trans (by simp) hg4.size
  have hlen : vals.length = fs.length := by have := h.row.1; simpa using this
  have hne : ∀ k, k < w3.heap.size → (some k ≠ v.ownBlock) → w4.heap[k]? = w3.heap[k]? := fun k hk hx => (hg4.block k (by simp; omega) hx).trans (Below.heap_alloc _ _ _ hk)
  have hge : ∀ k, some k = v.ownBlock → lo ≤ k := fun k e => (h.own.lt k e.symm).1
  have how3 : w3.ownsRow lo 74 2 v fs.length (fcells fs vals) := ownsRow_keep h.own fun g hg => hb3.block g (h.own.lt g hg).2
  have hty : ∀ k cs, k < w3.heap.size → w3.heap[k]? = some (.cells cs 5 (0, 0)) → w4.heap[k]? = w3.heap[k]? := fun k cs hk hc => hne k hk fun e => by
    rcases how3.2 with ⟨e1, _⟩ | ⟨g', cap, cur, e1, _, e3, _⟩
    · rw [e1] at e; simp [Value.ownBlock] at e
    · rw [e1] at e; simp [Value.ownBlock] at e; subst e; rw [hc] at e3; simp at e3
  have hcell : ∀ k, v3.ownBlock = some k → ∃ cs, w3.heap[k]? = some (.cells cs 5 (0, 0)) := fun k e => by
    rcases hO.own.2 with ⟨e1, _⟩ | ⟨g', cap, cur, e1, _, e3, _⟩
    · rw [e1] at e; simp [Value.ownBlock] at e
    · rw [e1] at e; simp [Value.ownBlock] at e; subst e; exact ⟨_, e3⟩
  refine ⟨⟨by rw [List.length_append, fcells_more _ _ _ _ hlen]; exact ho4, ?_, fun u hu => ?_⟩, hg4.os.trans hb3.os, hg4.tape.trans hb3.tape, hg4.output.trans hb3.output, Nat.le_trans hb3.size hsz4, fun k hk => ?_⟩
  · rw [List.map_append]
    refine (h.row.keep8 (w' := w4) (hi' := w4.heap.size) (fun k cs _ hk hc => ?_) (Nat.le_trans hb3.size hsz4)).more ⟨?_, fun k e => ?_⟩
    · have hk3 := hb3.block k hk
      exact (hty k cs (Nat.lt_of_lt_of_le hk hb3.size) (hk3.trans hc)).trans hk3
    · exact isBy_keepW hO.by_ fun k e => by
        obtain ⟨cs, hc⟩ := hcell k e
        exact hty k cs (hO.own.lt k e).2 hc
    · obtain ⟨cs, hc⟩ := hcell k e
      have hl := hO.own.lt k e
      exact ⟨⟨Nat.le_trans hlo hl.1, Nat.lt_of_lt_of_le hl.2 hsz4⟩, cs, (hty k cs hl.2 hc).trans hc⟩
  · rcases List.mem_append.1 hu with hu | hu
    · exact h.cap u hu
    · rw [List.mem_singleton.1 hu]; exact Cpd.of_own hO.own
  · exact (hne k (by have := hb3.size; omega) fun e => by have := hge k e; omega).trans (hb3.block k (by omega))

end Go.Proofs.YtlandfghodfjdaaGreat

/- What a file's bytes hold: taken. -/
import Derived.Test.YtgmahgfelbkoeaaDoorJ2H
namespace Go.Proofs.YtgmahgfelbkoeaaDoor
open Go.RowKit
set_option linter.unusedVariables false
set_option linter.unusedSimpArgs false

/-- How taken ends. -/
def Fin (w0 : World) (res : Option (List (List (List Nat)) × Nat)) (e : Ending) (w' : World) : Prop := Below w0.heap.size w0 w' ∧
  match res with
  | none => e = .returned (.tuple #[.slice none 0 0, .int .i64 0, .int .i64 111])
  | some (rr, s) => ∃ v, e = .returned (.tuple #[v, .int .i64 (s : Int), .int .i64 0]) ∧ RecsAt w' w0.heap.size w'.heap.size v rr

/-- At the label next. -/
structure NI (w0 : World) (N : Nat) (RES : Option (List (List (List Nat)) × Nat)) (m : Nat) (a : Act) (w : World) (f : Nat) (left : List Nat) (recs : List (List (List Nat))) (v2 : Value) (p8 : Option Addr) (n8 c8 : Nat) (pb : Option Addr) (cb : Nat) : Prop where
  sz : a.tmps.size = 94
  df : a.defers = []
  s0 : a.tmps.getD 0 undef = .slice pb N cb
  s2 : a.tmps.getD 2 undef = v2
  s8 : a.tmps.getD 8 undef = .slice p8 n8 c8
  bel : Below w0.heap.size w0 w
  rcs : RecsAt w w0.heap.size w.heap.size v2 recs
  cy : Cy w p8 n8 c8 left
  lt : ∀ n ∈ left, n < 256
  le : recs.length + left.length ≤ N
  fu : left.length < f
  res : tkRecs f left recs = RES
  ob : ∀ k, (Value.slice p8 n8 c8).ownBlock = some k → k < w0.heap.size
  me : m = 2 * left.length + 1

/-- At the label row. -/
structure RI (w0 : World) (N : Nat) (RES : Option (List (List (List Nat)) × Nat)) (m : Nat) (a : Act) (w : World) (f : Nat) (left : List Nat) (recs : List (List (List Nat))) (v2 : Value) (p8 : Option Addr) (n8 c8 : Nat) (pb : Option Addr) (cb : Nat) (f2 : Nat) (body : List Nat) (rows : List (List Nat)) (v5 : Value) (vals : List Value) (p9 : Option Addr) (n9 c9 : Nat) (H0 : Nat) : Prop where
  sz : a.tmps.size = 94
  df : a.defers = []
  s0 : a.tmps.getD 0 undef = .slice pb N cb
  s2 : a.tmps.getD 2 undef = v2
  s5 : a.tmps.getD 5 undef = v5
  s8 : a.tmps.getD 8 undef = .slice p8 n8 c8
  s9 : a.tmps.getD 9 undef = .slice p9 n9 c9
  bel : Below w0.heap.size w0 w
  h0 : w0.heap.size ≤ H0 ∧ H0 ≤ w.heap.size
  rcs : RecsAt w w0.heap.size H0 v2 recs
  own : w.ownsRow H0 38 1 v5 rows.length vals
  row : RowV w w0.heap.size w.heap.size vals rows
  rl : rows.length ≤ 4096
  cy : Cy w p8 n8 c8 left
  lt : ∀ n ∈ left, n < 256
  cb9 : Cy w p9 n9 c9 body
  lt9 : ∀ n ∈ body, n < 256
  le : recs.length + left.length + body.length + 8 ≤ N
  fu : left.length < f
  fu2 : body.length < f2
  res : (match tkRows f2 body rows with | none => none | some rs => tkRecs f left (recs ++ [rs])) = RES
  ob : ∀ k, (Value.slice p8 n8 c8).ownBlock = some k → k < w0.heap.size
  ob9 : ∀ k, (Value.slice p9 n9 c9).ownBlock = some k → k < w0.heap.size
  me : m = 2 * left.length + body.length + 2

/-- At each label. -/
def TI (w0 : World) (N : Nat) (RES : Option (List (List (List Nat)) × Nat)) (l m : Nat) (a : Act) (w : World) : Prop :=
  (l = 1 ∧ ∃ f left recs v2 p8 n8 c8 pb cb, NI w0 N RES m a w f left recs v2 p8 n8 c8 pb cb) ∨
  (l = 2 ∧ ∃ f left recs v2 p8 n8 c8 pb cb f2 body rows v5 vals p9 n9 c9 H0, RI w0 N RES m a w f left recs v2 p8 n8 c8 pb cb f2 body rows v5 vals p9 n9 c9 H0) ∨
  (l = 0 ∧ m = 0 ∧ RES = none ∧ Below w0.heap.size w0 w ∧ a.tmps.size = 94 ∧ a.defers = [])

theorem SI_ret {I : Nat → Nat → Act → World → Prop} {Q : Exit → Act → World → Prop} {m : Nat} {a : Act} {w : World} (h : Q .ret a w) : SI I Q m .ret a w := h

theorem info40 : ∃ i, Tryd.prog.info? 38 = some i ∧ i.zero = some (.slice none 0 0) ∧ i.size = 1 ∧ i.bytes = 24 := by
  obtain ⟨i, h1, h2, h3, h4⟩ := info_parts (P := Tryd.prog) (e := 38) (z := .slice none 0 0) (size := 1) (bytes := 24) (by kernel_rfl)
  exact ⟨i, h1, h2, h3, h4⟩
theorem info37 : ∃ i, Tryd.prog.info? 35 = some i ∧ i.zero = some (.slice none 0 0) ∧ i.size = 1 ∧ i.bytes = 24 := by
  obtain ⟨i, h1, h2, h3, h4⟩ := info_parts (P := Tryd.prog) (e := 35) (z := .slice none 0 0) (size := 1) (bytes := 24) (by kernel_rfl)
  exact ⟨i, h1, h2, h3, h4⟩

theorem quietN {P : Program} {f : Nat} {args : Array Value} {w : World} {x : Nat} {v : Value} (h : Calls P f args (w.drewN x) fun e w' => e = .returned v ∧ ∃ n, w' = (w.drewN x).drewN n) :
    Calls P f args (w.drewN x) fun e w' => e = .returned v ∧ ∃ n, w' = w.drewN n :=
  h.mono fun e w' ⟨he, n, hn⟩ => ⟨he, x + n, by rw [hn, World.drewN_drewN]⟩

set_option maxRecDepth 100000 in
set_option maxHeartbeats 4000000 in
theorem taken_no (p : Option Addr) (n c : Nat) (bs : List Nat) (w : World) (h : Cy w p n c bs) (hb : ∀ n ∈ bs, n < 256) (hl : bs.length ≤ 268435456) (hpre : ¬ bs.take 8 = headB) :
    Calls Tryd.prog 37 #[.slice p n c] w fun e w' => Fin w none e w' := by
  have hb8 : Below w.heap.size w (w.alloc (.cells #[.int .u8 70, .int .u8 65, .int .u8 84, .int .u8 72, .int .u8 79, .int .u8 77, .int .u8 74, .int .u8 49] 5 (8, 9))) := (Below.refl _ _).alloc (Nat.le_refl _) _
  have hcv : (convert 38 38 (.slice (some ⟨w.heap.size, 0, none⟩) 8 8)).run Tryd.prog (w.alloc (.cells #[.int .u8 70, .int .u8 65, .int .u8 84, .int .u8 72, .int .u8 79, .int .u8 77, .int .u8 74, .int .u8 49] 5)) = .ok (.slice (some ⟨w.heap.size, 0, none⟩) 8 8) (w.alloc (.cells #[.int .u8 70, .int .u8 65, .int .u8 84, .int .u8 72, .int .u8 79, .int .u8 77, .int .u8 74, .int .u8 49] 5 (8, 9))) := Go.Joins.run_convert_bytes_const_at (P := Tryd.prog) w 38 5 #[.int .u8 70, .int .u8 65, .int .u8 84, .int .u8 72, .int .u8 79, .int .u8 77, .int .u8 74, .int .u8 49] 8 8 w.heap.size rfl Tryd.underlying38 (by kernel_rfl)
  have HPX := hide (bprefix_any p n c (.slice (some ⟨w.heap.size, 0, none⟩) 8 8) bs headB _ (h.below hb8) (isBy_head (heap_alloc_new w _)) hb (by decide) (by omega) (by decide))
  have HB8 := hide hb8
  obtain ⟨w1, hw1⟩ : ∃ w1, w1 = w.alloc (.cells #[.int .u8 70, .int .u8 65, .int .u8 84, .int .u8 72, .int .u8 79, .int .u8 77, .int .u8 74, .int .u8 49] 5 (8, 9)) := ⟨_, rfl⟩
  rw [← hw1] at hcv HPX HB8
  rw [show decide (bs.take headB.length = headB) = false from decide_eq_false hpre] at HPX
  clear h hb hb8 hw1 hpre
  go_enter Tryd.func37, Tryd.ntmps37
  go_wp2_with fail
  refine wp_scope_inv (fun l m a w2 => l = 0 ∧ m = 0 ∧ Below w.heap.size w w2 ∧ a.tmps.size = 94 ∧ a.defers = []) 1 ?hI ?h0
  case hI =>
    rintro l m a w2 ⟨rfl, rfl, hB, hsz, hdf⟩ _
    refine ⟨_, rfl, ?_⟩
    obtain ⟨u, hu, ha⟩ := act94 a hsz hdf
    rw [ha]
    have HB := hide hB
    clear hu ha hsz hdf hB
    go_wp2_with fail
    refine SI_ret ?_
    go_ret3
    exact ⟨HB.out, rfl⟩
  case h0 =>
    intro _
    go_wp2_with (go_at_call 53; refine HPX.out.mono ?_; rintro e w' ⟨rfl, hw⟩; obtain rfl := hw)
    refine wp_goto ?_
    exact ⟨0, by decide, rfl, rfl, HB8.out, rfl, rfl⟩

end Go.Proofs.YtgmahgfelbkoeaaDoor

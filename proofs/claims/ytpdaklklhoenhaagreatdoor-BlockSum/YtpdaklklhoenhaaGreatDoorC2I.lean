/- A map of whole numbers of any kind that the call makes: an entry put, one looked up. -/
import Derived.Test.YtpdaklklhoenhaaGreatDoorC1M
import Derived.Laws.MathBits
import Derived.Test.YtpdaklklhoenhaaGreatDoorB1R
import Derived.Maps.Own
import Derived.WideMake
/- The bits of a column by Dict. Plain mathematics. -/
namespace Go.Proofs.YtpdaklklhoenhaaGreatDoor
open M
set_option linter.unusedVariables false

/-- The unlike values of the first n, in the order in which each comes first. -/
def uq (f : Nat → Nat) : Nat → List Nat
  | 0 => []
  | n + 1 => if f n ∈ uq f n then uq f n else uq f n ++ [f n]

theorem uq_congr (f g : Nat → Nat) (n : Nat) (h : ∀ i, i < n → f i = g i) : uq f n = uq g n := by
  induction n with
  | zero => rfl
  | succ n ih => rw [uq, uq, ih fun i hi => h i (by omega), h n (by omega)]

theorem uq_len (f : Nat → Nat) (n : Nat) : (uq f n).length ≤ n := by
  induction n with
  | zero => exact Nat.le_refl _
  | succ n ih =>
    rw [uq]
    split
    · omega
    · simp; omega

theorem uq_mono (f : Nat → Nat) (v n : Nat) (h : v ∈ uq f n) : v ∈ uq f (n + 1) := by
  rw [uq]; split
  · exact h
  · exact List.mem_append_left _ h

theorem uq_mem (f : Nat → Nat) (i n : Nat) (h : i < n) : f i ∈ uq f n := by
  induction n with
  | zero => omega
  | succ n ih =>
    by_cases e : i = n
    · subst e; rw [uq]; split
      · assumption
      · simp
    · exact uq_mono f _ n (ih (by omega))

theorem uq_pos (f : Nat → Nat) (n : Nat) (h : 0 < n) : 0 < (uq f n).length := List.length_pos_of_mem (uq_mem f 0 n h)

theorem uq_of (f : Nat → Nat) (v n : Nat) (h : v ∈ uq f n) : ∃ i, i < n ∧ f i = v := by
  induction n with
  | zero => simp [uq] at h
  | succ n ih =>
    rw [uq] at h
    split at h
    · obtain ⟨i, h1, h2⟩ := ih h
      exact ⟨i, by omega, h2⟩
    · rcases List.mem_append.1 h with h | h
      · obtain ⟨i, h1, h2⟩ := ih h
        exact ⟨i, by omega, h2⟩
      · simp at h
        exact ⟨n, by omega, h.symm⟩

theorem uq_lt (f : Nat → Nat) (M n : Nat) (hf : ∀ i, i < n → f i < M) (v : Nat) (h : v ∈ uq f n) : v < M := by
  obtain ⟨i, h1, h2⟩ := uq_of f v n h
  rw [← h2]; exact hf i h1

/-- Values of W bits, one behind the other. -/
def plL (W : Nat) : List Nat → List Bool
  | [] => []
  | v :: t => bitsOf v W ++ plL W t

theorem plL_append (W : Nat) (a b : List Nat) : plL W (a ++ b) = plL W a ++ plL W b := by
  induction a with
  | nil => rfl
  | cons v t ih => rw [List.cons_append, plL, plL, ih, List.append_assoc]

theorem plL_length (W : Nat) (a : List Nat) : (plL W a).length = W * a.length := by
  induction a with
  | nil => rfl
  | cons v t ih => rw [plL, List.length_append, ih, bitsOf_length, List.length_cons, Nat.mul_succ]; omega

/-- The places of the first n values, of p bits each. -/
def pcB (U : List Nat) (p : Nat) (f : Nat → Nat) : Nat → List Bool
  | 0 => []
  | n + 1 => pcB U p f n ++ bitsOf (U.idxOf (f n)) p

theorem pcB_length (U : List Nat) (p : Nat) (f : Nat → Nat) (n : Nat) : (pcB U p f n).length = p * n := by
  induction n with
  | zero => rfl
  | succ n ih => rw [pcB, List.length_append, ih, bitsOf_length, Nat.mul_succ]

theorem pcB_congr (U : List Nat) (p : Nat) (f g : Nat → Nat) (n : Nat) (h : ∀ i, i < n → f i = g i) : pcB U p f n = pcB U p g n := by
  induction n with
  | zero => rfl
  | succ n ih => rw [pcB, pcB, ih fun i hi => h i (by omega), h n (by omega)]

/-- The bits of a column by Dict, if it has so few unlike values. -/
def dcB (W : Nat) (f : Nat → Nat) (n : Nat) : List Bool :=
  bitsOf ((uq f n).length - 1) 8 ++ plL W (uq f n) ++ pcB (uq f n) (bitLen ((uq f n).length - 1)) f n

theorem dcB_congr (W : Nat) (f g : Nat → Nat) (n : Nat) (h : ∀ i, i < n → f i = g i) : dcB W f n = dcB W g n := by
  rw [dcB, dcB, uq_congr f g n h, pcB_congr _ _ f g n h]

/-- The places of m values from k on. -/
def pcF (U : List Nat) (p : Nat) (f : Nat → Nat) : Nat → Nat → List Bool
  | _, 0 => []
  | k, m + 1 => bitsOf (U.idxOf (f k)) p ++ pcF U p f (k + 1) m

theorem pcF_end (U : List Nat) (p : Nat) (f : Nat → Nat) (k m : Nat) : pcF U p f k (m + 1) = pcF U p f k m ++ bitsOf (U.idxOf (f (k + m))) p := by
  induction m generalizing k with
  | zero => simp [pcF]
  | succ m ih => rw [pcF, ih (k + 1), pcF, List.append_assoc, show k + 1 + m = k + (m + 1) from by omega]

theorem pcB_pcF (U : List Nat) (p : Nat) (f : Nat → Nat) (n : Nat) : pcB U p f n = pcF U p f 0 n := by
  induction n with
  | zero => rfl
  | succ n ih => rw [pcB, pcF_end, ih, Nat.zero_add]

/-- The coding's bits where it takes the column. -/
def dcO (W : Nat) (f : Nat → Nat) (n : Nat) : Option (List Bool) := if (uq f n).length ≤ 256 then some (dcB W f n) else none

end Go.Proofs.YtpdaklklhoenhaaGreatDoor

/- A map of whole numbers that the call makes by a literal: each entry put, one looked up (whatever its elements are). -/
namespace Go.Proofs.YtpdaklklhoenhaaGreatDoor
open Go.RowKit
set_option linter.unusedVariables false
set_option linter.unusedSimpArgs false

theorem run_put {P : Program} {w : World} (mty kt et : TypeId) (r clock : Nat) (es : Array MapEntry) (k : Int) (val : Value) (hm : P.underlying mty = some (.map kt et)) (hk : P.underlying kt = some (.int .i64)) (hb : w.heap[r]? = some (.map es clock))
    (hf : Instr.findNow (.int .i64) (.int .i64 k) es.toList 0 = some none) :
    (Instr.mapUpdate mty (.map (some r)) (.int .i64 k) val).run P w = .ok () { w with heap := w.heap.setIfInBounds r (.map (es.push { key := .int .i64 k, val := val, born := clock }) (clock + 1)) } := by
  have hc : (Instr.checkKey false 10000 kt (.int .i64 k)).run P w = .ok () w := MapKept.run_checkKey (k := .int .i64 k) hk (by simp [MapKept.IsKey]) false 9999
  simp [Instr.mapUpdate, run_underlying hm, MapKept.run_getObj_map hb, hc, MapKept.run_findKey hk hf, MapKept.run_setObj_map _ hb, Result.andThen]

theorem run_get {P : Program} {w : World} (mty kt et : TypeId) (r clock : Nat) (es : Array MapEntry) (k : Int) (i : Nat) (val : Value) (hm : P.underlying mty = some (.map kt et)) (hk : P.underlying kt = some (.int .i64)) (hb : w.heap[r]? = some (.map es clock))
    (hf : Instr.findNow (.int .i64) (.int .i64 k) es.toList 0 = some (some (i, val))) :
    (Instr.lookup mty (.map (some r)) (.int .i64 k) true).run P w = .ok (.tuple #[val, .bool true]) w := by
  have hc : (Instr.checkKey es.isEmpty 10000 kt (.int .i64 k)).run P w = .ok () w := MapKept.run_checkKey (k := .int .i64 k) hk (by simp [MapKept.IsKey]) _ 9999
  simp [Instr.lookup, run_underlying hm, MapKept.run_getObj_map hb, hc, MapKept.run_findKey hk hf, Result.andThen]

theorem run_none {P : Program} {w : World} (mty kt et : TypeId) (r clock : Nat) (es : Array MapEntry) (k : Int) (z : Value) (hm : P.underlying mty = some (.map kt et)) (hk : P.underlying kt = some (.int .i64)) (hb : w.heap[r]? = some (.map es clock))
    (hf : Instr.findNow (.int .i64) (.int .i64 k) es.toList 0 = some none) (hz : (zeroValue et).run P w = .ok z w) :
    (Instr.lookup mty (.map (some r)) (.int .i64 k) true).run P w = .ok (.tuple #[z, .bool false]) w := by
  have hc : (Instr.checkKey es.isEmpty 10000 kt (.int .i64 k)).run P w = .ok () w := MapKept.run_checkKey (k := .int .i64 k) hk (by simp [MapKept.IsKey]) _ 9999
  simp [Instr.lookup, run_underlying hm, MapKept.run_getObj_map hb, hc, MapKept.run_findKey hk hf, Result.andThen, hz]

/-- One entry of a literal, at the operation. -/
theorem wpList_put {P : Program} (w : World) {ops : Array Oper} {rest : List Oper} {o : Oper} {a : Act} {Q : Exit → Act → World → Prop}
    (hg : o.guard = none) (m x v : Operand) (t : TypeId) (hop : o.op = Op.insert t m x v) (kt et : TypeId) (hm : P.underlying t = some (.map kt et)) (hk : P.underlying kt = some (.int .i64))
    (r clock : Nat) (es : Array MapEntry) (k : Int) (val : Value) (em : a.eval m = .map (some r)) (ex : a.eval x = .int .i64 k) (ev : a.eval v = val) (hb : w.heap[r]? = some (.map es clock)) (hf : Instr.findNow (.int .i64) (.int .i64 k) es.toList 0 = some none)
    (hK : ∀ w', w'.heap[r]? = some (.map (es.push { key := .int .i64 k, val := val, born := clock }) (clock + 1)) → (∀ B, B ≤ r → Below B w w') → wpList P ops Q rest (a.put o.dst undef) w') :
    wpList P ops Q (o :: rest) a w := by
  refine wpList_plain hg fun K' hK' => ?_
  have hrun := run_put (P := P) t kt et r clock es k val hm hk hb hf
  obtain ⟨h1, h2⟩ := MapKept.heap_set (o' := .map (es.push { key := .int .i64 k, val := val, born := clock }) (clock + 1)) hb
  unfold Oper.wp
  simp [execOp, hop, em, ex, ev, hrun, Result.andThen]
  exact hK' _ _ (hK _ h1 fun B hB => ⟨rfl, rfl, rfl, by simp, fun j hj => h2 j (by omega)⟩)

/-- A map made, at the operation. -/
theorem wpList_mkMap {P : Program} (w : World) {ops : Array Oper} {rest : List Oper} {o : Oper} {a : Act} {Q : Exit → Act → World → Prop}
    (hg : o.guard = none) (t : TypeId) (hop : o.op = Op.makeMap t none) (hK : wpList P ops Q rest (a.put o.dst (.map (some w.heap.size))) (w.alloc (.map #[] 0))) :
    wpList P ops Q (o :: rest) a w := by
  refine wpList_plain hg fun K' hK' => ?_
  have hrun := @run_makeMap P t w
  unfold Oper.wp
  simp [execOp, hop, hrun, Result.andThen]
  exact hK' _ _ hK

end Go.Proofs.YtpdaklklhoenhaaGreatDoor

namespace Go.Proofs.YtpdaklklhoenhaaGreatDoor
open Go.RowKit
set_option linter.unusedVariables false
set_option linter.unusedSimpArgs false

theorem run_putK {P : Program} {w : World} (kd : IntKind) (mty kt et : TypeId) (r clock : Nat) (es : Array MapEntry) (k : Int) (val : Value) (hm : P.underlying mty = some (.map kt et)) (hk : P.underlying kt = some (.int kd)) (hb : w.heap[r]? = some (.map es clock))
    (hf : Instr.findNow (.int kd) (.int kd k) es.toList 0 = some none) :
    (Instr.mapUpdate mty (.map (some r)) (.int kd k) val).run P w = .ok () { w with heap := w.heap.setIfInBounds r (.map (es.push { key := .int kd k, val := val, born := clock }) (clock + 1)) } := by
  have hc : (Instr.checkKey false 10000 kt (.int kd k)).run P w = .ok () w := MapKept.run_checkKey (k := .int kd k) hk (by simp [MapKept.IsKey]) false 9999
  simp [Instr.mapUpdate, run_underlying hm, MapKept.run_getObj_map hb, hc, MapKept.run_findKey hk hf, MapKept.run_setObj_map _ hb, Result.andThen]

theorem run_getK {P : Program} {w : World} (kd : IntKind) (mty kt et : TypeId) (r clock : Nat) (es : Array MapEntry) (k : Int) (i : Nat) (val : Value) (hm : P.underlying mty = some (.map kt et)) (hk : P.underlying kt = some (.int kd)) (hb : w.heap[r]? = some (.map es clock))
    (hf : Instr.findNow (.int kd) (.int kd k) es.toList 0 = some (some (i, val))) :
    (Instr.lookup mty (.map (some r)) (.int kd k) true).run P w = .ok (.tuple #[val, .bool true]) w ∧ (Instr.lookup mty (.map (some r)) (.int kd k) false).run P w = .ok val w := by
  have hc : (Instr.checkKey es.isEmpty 10000 kt (.int kd k)).run P w = .ok () w := MapKept.run_checkKey (k := .int kd k) hk (by simp [MapKept.IsKey]) _ 9999
  constructor <;> simp [Instr.lookup, run_underlying hm, MapKept.run_getObj_map hb, hc, MapKept.run_findKey hk hf, Result.andThen]

theorem run_noneK {P : Program} {w : World} (kd : IntKind) (mty kt et : TypeId) (r clock : Nat) (es : Array MapEntry) (k : Int) (z : Value) (hm : P.underlying mty = some (.map kt et)) (hk : P.underlying kt = some (.int kd)) (hb : w.heap[r]? = some (.map es clock))
    (hf : Instr.findNow (.int kd) (.int kd k) es.toList 0 = some none) (hz : (zeroValue et).run P w = .ok z w) :
    (Instr.lookup mty (.map (some r)) (.int kd k) true).run P w = .ok (.tuple #[z, .bool false]) w := by
  have hc : (Instr.checkKey es.isEmpty 10000 kt (.int kd k)).run P w = .ok () w := MapKept.run_checkKey (k := .int kd k) hk (by simp [MapKept.IsKey]) _ 9999
  simp [Instr.lookup, run_underlying hm, MapKept.run_getObj_map hb, hc, MapKept.run_findKey hk hf, Result.andThen, hz]

/-- The entries of a map from values to their places. -/
def entsK (kd : IntKind) : Nat → List Nat → List MapEntry
  | _, [] => []
  | j, v :: t => { key := .int kd (v : Int), val := .int .i64 (j : Int), born := j } :: entsK kd (j + 1) t

theorem entsK_append (kd : IntKind) (j : Nat) (U : List Nat) (v : Nat) : entsK kd j (U ++ [v]) = entsK kd j U ++ [{ key := .int kd (v : Int), val := .int .i64 ((j + U.length : Nat) : Int), born := j + U.length }] := by
  induction U generalizing j with
  | nil => simp [entsK]
  | cons u t ih => rw [List.cons_append, entsK, entsK, ih (j + 1), List.length_cons, show j + 1 + t.length = j + (t.length + 1) from by omega]; rfl

theorem find_in (kd : IntKind) (U : List Nat) (v : Nat) (hv : v ∈ U) (j i : Nat) : Instr.findNow (.int kd) (.int kd (v : Int)) (entsK kd j U) i = some (some (i + U.idxOf v, .int .i64 ((j + U.idxOf v : Nat) : Int))) := by
  induction U generalizing j i with
  | nil => simp at hv
  | cons u t ih =>
    by_cases e : u = v
    · subst e
      simp [entsK, Instr.findNow, Instr.sameNow]
    · have hb : ((v : Int) == (u : Int)) = false := by rw [beq_eq_false_iff_ne]; omega
      have ht : v ∈ t := by rcases List.mem_cons.1 hv with h | h
                            · exact absurd h.symm e
                            · exact h
      have hi : (u :: t).idxOf v = t.idxOf v + 1 := by rw [List.idxOf_cons, show (u == v) = false from by rw [beq_eq_false_iff_ne]; exact e]; rfl
      rw [entsK, Instr.findNow]
      simp only [Instr.sameNow, if_true, hb]
      rw [ih ht (j + 1) (i + 1), hi, show i + 1 + t.idxOf v = i + (t.idxOf v + 1) from by omega, show j + 1 + t.idxOf v = j + (t.idxOf v + 1) from by omega]

theorem find_out (kd : IntKind) (U : List Nat) (v : Nat) (hv : ¬ v ∈ U) (j i : Nat) : Instr.findNow (.int kd) (.int kd (v : Int)) (entsK kd j U) i = some none := by
  induction U generalizing j i with
  | nil => rfl
  | cons u t ih =>
    have hb : ((v : Int) == (u : Int)) = false := by
      rw [beq_eq_false_iff_ne]
      intro e
      exact hv (by rw [show v = u from by omega]; exact List.mem_cons_self)
    rw [entsK, Instr.findNow]
    simp only [Instr.sameNow, if_true, hb]
    exact ih (fun h => hv (List.mem_cons_of_mem _ h)) (j + 1) (i + 1)

end Go.Proofs.YtpdaklklhoenhaaGreatDoor

/- BitsWrites: how it begins. -/
import Derived.Test.YtpiiagjfimdflaaWv
import Derived.Laws.Tables
namespace Go.Proofs.Ytpiiagjfimdflaa
open Go.RowKit
open M
set_option linter.unusedVariables false

/-- The cells of a Writer that has just been made. -/
def wz : List Value := Value.pointer none :: (List.replicate 120 (Value.int .u8 0) ++ [.int .i64 0, .int .i64 0])

theorem wz_length : wz.length = 123 := by simp [wz]

theorem zero28 : Try.zeroCells28 = (wz ++ wz).toArray := by kernel_rfl

theorem wz_at (o k : Nat) (ho : o = 0 ∨ o = 123) (hk : k < 123) : Try.zeroCells28[o + k]? = wz[k]? := by
  rw [zero28, List.getElem?_toArray]
  rcases ho with rfl | rfl
  · rw [Nat.zero_add, List.getElem?_append_left (by rw [wz_length]; exact hk)]
  · rw [List.getElem?_append_right (by rw [wz_length]; omega), wz_length, Nat.add_sub_cancel_left]

theorem wz_mid (j : Nat) (hj : j < 120) : wz[1 + j]? = some (.int .u8 0) := by
  rw [Nat.add_comm 1 j]
  simp only [wz, List.getElem?_cons_succ]
  rw [List.getElem?_append_left (by simpa using hj), List.getElem?_replicate, if_pos hj]

theorem wr_of28 {w : World} {b lo o : Nat} (hn : w.heap[b]? = some (.cells Try.zeroCells28 28 (0, 0))) (ho : o = 0 ∨ o = 123) : Wr w lo b o [] 0 := by
  refine ⟨none, ⟨?_, fun j hj => ?_, ?_, ?_, fun j hj => ?_⟩, rfl⟩
  · have := wz_at o 0 ho (by omega)
    rw [Nat.add_zero] at this
    rw [cell_of_row _ _ _ _ _ _ hn, this]; rfl
  · rw [cell_of_row _ _ _ _ _ _ hn, Nat.add_assoc, wz_at o (1 + j) ho (by omega), wz_mid j hj]
    simp [byteAt]
  · rw [cell_of_row _ _ _ _ _ _ hn, wz_at o 121 ho (by omega)]
    simp [wz]
  · rw [cell_of_row _ _ _ _ _ _ hn, wz_at o 122 ho (by omega)]
    simp [wz]
  · exact frozen_of_row _ _ _ _ _ hn

/-- The cells of a Book that has just been made. -/
def bookZ : Array Value := ((List.range 72).map fun j => if j < 69 ∧ j % 3 ≠ 2 then Value.slice none 0 0 else Value.int .i64 0).toArray

theorem built59 : Try.prog.built 59 [] = some bookZ := by kernel_rfl

theorem bookZ_at (j : Nat) (h : j < 72) : bookZ[j]? = some (if j < 69 ∧ j % 3 ≠ 2 then Value.slice none 0 0 else Value.int .i64 0) := by
  unfold bookZ
  rw [List.getElem?_toArray, List.getElem?_map, List.getElem?_range h]
  rfl

theorem run_build59 (w : World) : (Instr.build 59 #[]).run Try.prog w = .ok (.agg bookZ) w := run_build (P := Try.prog) w 59 #[] bookZ built59

theorem wp_build59 {o : Oper} {a : Act} {w : World} {K : Act → World → Prop} {Q : Exit → Act → World → Prop} (ho : o.op = .build 59 #[]) (h : K (a.put o.dst (.agg bookZ)) w) : o.wp Try.prog a w K Q := by
  unfold Oper.wp execOp
  simp only [ho, List.map_toArray, List.map_nil, Sem.run_bind, run_build59, Result.andThen_ok]
  exact h

theorem wpList_build59 {ops : Array Oper} {rest : List Oper} {o : Oper} {a : Act} {w : World} {Q : Exit → Act → World → Prop} (hg : o.guard = none) (ho : o.op = .build 59 #[]) (h : wpList Try.prog ops Q rest (a.put o.dst (.agg bookZ)) w) : wpList Try.prog ops Q (o :: rest) a w :=
  wpList_plain hg fun K hK => wp_build59 ho (hK _ _ h)

theorem book_of {w : World} {NB base : Nat} (hn : w.heap[NB]? = some (.cells bookZ 59 (0, 0))) (hb : NB < base) : BookSt w NB base none none [] 0 0 0 0 := by
  have c : ∀ j, j < 72 → w.cell? ⟨NB, j, none⟩ = some (if j < 69 ∧ j % 3 ≠ 2 then Value.slice none 0 0 else Value.int .i64 0) := fun j hj => by rw [cell_of_row _ _ _ _ _ _ hn]; exact bookZ_at j hj
  refine ⟨⟨fun j h1 h2 h3 => by rw [c j (by omega), if_pos ⟨h2, h3⟩], fun j h1 h2 h3 => by rw [c j (by omega), if_neg (by omega)], fun j hj => frozen_of_row _ _ _ _ _ hn⟩, ⟨_, c 0 (by omega), ?_, rfl⟩, ⟨_, c 1 (by omega), ?_, rfl⟩, ?_, ?_, ?_, ?_, fun e he => by simp at he, by simp, by omega, by omega, hb, fun _ => ⟨rfl, rfl⟩⟩
  · exact World.ownsRow_nil _ _ _ _
  · exact World.ownsRow_nil _ _ _ _
  · rw [c 2 (by omega)]; rfl
  · rw [c 69 (by omega)]; rfl
  · rw [c 70 (by omega)]; rfl
  · rw [c 71 (by omega)]; rfl

theorem late_of {w : World} {NL base : Nat} (hn : w.heap[NL]? = some (.cells #[.slice none 0 0, .slice none 0 0] 62 (0, 0))) (hb : NL < base) : LateSt w NL base none none [] := by
  refine ⟨⟨.slice none 0 0, ?_, World.ownsRow_nil _ _ _ _, rfl⟩, ⟨.slice none 0 0, ?_, World.ownsRow_nil _ _ _ _, rfl⟩, frozen_of_row _ _ _ _ _ hn, frozen_of_row _ _ _ _ _ hn, fun g hg => by simp at hg, fun k hk => by simp at hk, hb, fun _ => ⟨rfl, rfl⟩⟩
  · rw [cell_of_row _ _ _ _ _ _ hn]; rfl
  · rw [cell_of_row _ _ _ _ _ _ hn]; rfl

theorem rw_of {w : World} {c o : Nat} (hn : w.heap[c]? = some (.cells #[.slice none 0 0, .int .i64 0, .slice none 0 0, .int .i64 0] 32 (0, 0))) (ho : o = 0 ∨ o = 2) : Rw w c o none [] 0 := by
  refine ⟨⟨.slice none 0 0, ?_, World.ownsRow_nil _ _ _ _, rfl, fun _ => rfl⟩, ?_, fun j hj => frozen_of_row _ _ _ _ _ hn, fun g hg => by simp at hg⟩
  · rw [cell_of_row _ _ _ _ _ _ hn]; rcases ho with rfl | rfl <;> rfl
  · rw [cell_of_row _ _ _ _ _ _ hn]; rcases ho with rfl | rfl <;> rfl

theorem start_any (w : World) : MSt w 0 0 ((((w.alloc (.cells Try.zeroCells28 28)).alloc (.cells #[.slice none 0 0, .int .i64 0, .slice none 0 0, .int .i64 0] 32)).alloc (.cells bookZ 59)).alloc (.cells #[.slice none 0 0, .slice none 0 0] 62)) := by
  have k1 : (w.alloc (.cells Try.zeroCells28 28)).heap[w.heap.size]? = some (.cells Try.zeroCells28 28 (0, 0)) := heap_alloc_new _ _
  have z1 : (w.alloc (.cells Try.zeroCells28 28)).heap.size = w.heap.size + 1 := by simp
  have b1 : Below w.heap.size w (w.alloc (.cells Try.zeroCells28 28)) := (Below.refl _ _).alloc (Nat.le_refl _) _
  generalize w.alloc (.cells Try.zeroCells28 28) = wA at *
  have k2 : (wA.alloc (.cells #[.slice none 0 0, .int .i64 0, .slice none 0 0, .int .i64 0] 32)).heap[wA.heap.size]? = some (.cells #[.slice none 0 0, .int .i64 0, .slice none 0 0, .int .i64 0] 32 (0, 0)) := heap_alloc_new _ _
  have z2 : (wA.alloc (.cells #[.slice none 0 0, .int .i64 0, .slice none 0 0, .int .i64 0] 32)).heap.size = wA.heap.size + 1 := by simp
  have b2 : Below wA.heap.size wA (wA.alloc (.cells #[.slice none 0 0, .int .i64 0, .slice none 0 0, .int .i64 0] 32)) := (Below.refl _ _).alloc (Nat.le_refl _) _
  generalize wA.alloc (.cells #[.slice none 0 0, .int .i64 0, .slice none 0 0, .int .i64 0] 32) = wB at *
  have k3 : (wB.alloc (.cells bookZ 59)).heap[wB.heap.size]? = some (.cells bookZ 59 (0, 0)) := heap_alloc_new _ _
  have z3 : (wB.alloc (.cells bookZ 59)).heap.size = wB.heap.size + 1 := by simp
  have b3 : Below wB.heap.size wB (wB.alloc (.cells bookZ 59)) := (Below.refl _ _).alloc (Nat.le_refl _) _
  generalize wB.alloc (.cells bookZ 59) = wC at *
  have k4 : (wC.alloc (.cells #[.slice none 0 0, .slice none 0 0] 62)).heap[wC.heap.size]? = some (.cells #[.slice none 0 0, .slice none 0 0] 62 (0, 0)) := heap_alloc_new _ _
  have z4 : (wC.alloc (.cells #[.slice none 0 0, .slice none 0 0] 62)).heap.size = wC.heap.size + 1 := by simp
  have b4 : Below wC.heap.size wC (wC.alloc (.cells #[.slice none 0 0, .slice none 0 0] 62)) := (Below.refl _ _).alloc (Nat.le_refl _) _
  generalize wC.alloc (.cells #[.slice none 0 0, .slice none 0 0] 62) = wD at *
  have f1 : wD.heap[w.heap.size]? = some (.cells Try.zeroCells28 28 (0, 0)) := by rw [b4.block _ (by omega), b3.block _ (by omega), b2.block _ (by omega)]; exact k1
  have f2 : wD.heap[w.heap.size + 1]? = some (.cells #[.slice none 0 0, .int .i64 0, .slice none 0 0, .int .i64 0] 32 (0, 0)) := by rw [b4.block _ (by omega), b3.block _ (by omega), ← z1]; exact k2
  have f3 : wD.heap[w.heap.size + 2]? = some (.cells bookZ 59 (0, 0)) := by rw [b4.block _ (by omega), show w.heap.size + 2 = wB.heap.size from by omega]; exact k3
  have f4 : wD.heap[w.heap.size + 3]? = some (.cells #[.slice none 0 0, .slice none 0 0] 62 (0, 0)) := by rw [show w.heap.size + 3 = wC.heap.size from by omega]; exact k4
  refine ⟨[], [], 0, 0, none, none, none, none, [], 0, 0, 0, 0, none, none, [], ⟨wr_of28 f1 (.inl rfl), wr_of28 f1 (.inr rfl), rw_of f2 (.inl rfl), rw_of f2 (.inr rfl), by simp, by simp, fun k hk => by simp at hk, fun k hk => by simp at hk, ⟨book_of f3 (by omega), late_of f4 (by omega), by omega, fun i e _ he => by simp at he, by simp, by simp, fun k hk => by simp at hk, fun g hg => by simp at hg, fun a b ga gb _ ha => by simp at ha, by omega⟩, fun j hj => ?_, b1.trans ((b2.mono (by omega)).trans ((b3.mono (by omega)).trans (b4.mono (by omega))))⟩, by simp⟩
  rcases hj with ⟨e, he, _⟩ | ⟨g, hg, _⟩
  · simp at he
  · simp at hg

end Go.Proofs.Ytpiiagjfimdflaa

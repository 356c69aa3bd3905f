/-
  PROVED HERE: fathomlaw1.BitsReads returns true for every two rows of bytes and every list of Ops, and leaves them as they were; no condition beside the row's own.
  (The frame round the walk is after the kit's proof-skeleton.mjs; the walk is mine.)
-/
import Derived.Test.YtpiiagjfimdflaaRows
import Derived.Test.YtpiiagjfimdflaaE
import Derived.Test.YtpiiagjfimdflaaRj
import Derived.WalkKit
import Derived.ProofKit
import Derived.OpenShut
import Derived.ShutString
import Derived.ChangeOld
import Derived.Below
namespace Go.Proofs.Ytpiiagjfimdflaa.bitsReads
open Go.ChangeShapes Go.WideShapes Go.ChangeAt Go.RowKit
set_option linter.unusedVariables false

theorem own : ownKnob Try.prog.godebug = none := by kernel_rfl
theorem laidOut : laidOutB Try.prog = true := by kernel_rfl

theorem walk (p0 p1 : Option Addr) (l0 c0 l1 c1 : Nat) (B0 B1 : List Nat) (a0 : Option Addr) (len cap : Nat) (d n m : Nat → Int) (x : Nat → Nat) (w : World)
    (i0 : IsBy w (.slice p0 l0 c0) B0) (j0 : B0.length = l0) (k0 : ∀ n ∈ B0, n < 256) (i1 : IsBy w (.slice p1 l1 c1) B1) (j1 : B1.length = l1) (k1 : ∀ n ∈ B1, n < 256) (w0 : IsOps w a0 len d n m x) :
    Calls Try.prog 4 #[.agg #[.slice p0 l0 c0, .slice p1 l1 c1, .slice a0 len cap]] w fun e w' => e = .returned (.bool true) ∧ Below w.heap.size w w' := by
  obtain ⟨hl, h⟩ := w0
  rcases h with h0 | ⟨b, off, ha, hb, hops⟩
  · exact reads_any p0 p1 l0 c0 l1 c1 B0 B1 a0 0 0 len cap d n m x w i0 i1 j0 j1 k0 k1 hl (fun h => by omega) (fun i hi => by omega)
  · exact reads_any p0 p1 l0 c0 l1 c1 B0 B1 a0 b off len cap d n m x w i0 i1 j0 j1 k0 k1 hl (fun _ => ⟨ha, hb⟩) hops

set_option maxRecDepth 100000 in
theorem lifted (os : Os) (started : os.Started) (H : Type) (enc : TypeId × Value → H) :
    ReturnsInHanded {} Try.checked os 4 .any (Rows.bitsReadsSpec.pre6 enc Try.prog Try.f4 Rows.bitsReadsRow.domain false) (Rows.bitsReadsSpec.post enc Try.prog Try.f4 false true false false) := by
  refine returnsInHanded_of_change (C := Try.checked) own started (by kernel_rfl) Try.func4
    (ChangeSpec.witness6 (enc := enc) (C := Try.checked) false ⟨#[], #[.agg #[.slice none 0 0, .slice none 0 0, .slice none 0 0]], []⟩ 8 (by kernel_rfl) (by kernel_rfl) (by kernel_rfl) (by kernel_rfl)) ?_
  intro W base args ds gs before hval0 hW hcnd _
  have hval : ∀ (j : Nat) t v, Try.f4.params[j]? = some t → args[j]? = some v → Value.okWide Try.prog W .any base t v := hval0
  have hW' := hW
  obtain ⟨p, q, hA0, hV, rfl, hfz, hnd⟩ := hW
  have hA : DataW.TrodAll enc Try.prog W 0 (fun _ => true) true Try.f4.params.toList args.toList ds p := hA0
  rw [Try.params4] at hA hval
  obtain ⟨v0, vs0, d0, ds0, p0, q0, hargs, rfl, rfl, h0, r0⟩ := trodAll_cons hA
  obtain ⟨rfl, rfl, rfl⟩ := trodAll_nil r0
  obtain rfl : args = #[v0] := by cases args; simp_all
  obtain ⟨rfl, rfl⟩ := trodVars_none hV
  obtain ⟨cs, rfl, hcs⟩ := okWide_struct Try.underlying76 (hval 0 76 v0 rfl rfl)
  have k0 := h0
  have lt0 : ∀ x ∈ p0, x.block < W.heap.size := by obtain ⟨m, hm⟩ := k0; exact DataW.trod_lt m _ _ _ hm
  obtain ⟨fuel, hf⟩ := h0
  obtain ⟨s0, s1, l0, c0, l1, c1, B0, B1, a0, len, cap, fd, fn, fm, fx, rfl, i0, j0, b0, i1, j1, b1, w0⟩ := open_reads hcs (by simpa [Value.cells] using hf)
  clear hA0 hval0
  refine (walk s0 s1 l0 c0 l1 c1 B0 B1 a0 len cap fd fn fm fx W i0 j0 b0 i1 j1 b1 w0).mono fun e W' ⟨he, bel⟩ => ?_
  subst he
  exact ⟨_, rfl, _, _, _, [], _, [], hW', trodAll_mk1 (shut_bool Try.underlying4 _), (trodAll_cons_mk (Below.trod laidOut (by kernel_rfl) (of_decide_eq_true (by kernel_rfl)) k0 bel lt0) trodAll_mk0), rfl, bel.frame _, fun h => by cases h⟩

theorem over : Rows.bitsReadsRow.holds Try.pinned (OpenSpec.ofChange Rows.bitsReadsSpec) :=
  OpenClaim.holds_of_wide 4 Try.f4 rfl rfl rfl rfl rfl rfl rfl ⟨rfl, rfl, rfl, rfl, rfl⟩ rfl rfl rfl rfl rfl (by kernel_rfl) Try.func4 (by kernel_rfl)
    (of_decide_eq_true (by kernel_rfl)) (by unfold Func.isWrapper; first | (rw [if_pos (by decide +kernel)]; kernel_rfl) | (rw [if_neg (by decide +kernel)]; exact ⟨rfl, rfl⟩))
    (fun os started H enc _ => lifted os started H enc)

end Go.Proofs.Ytpiiagjfimdflaa.bitsReads
namespace Go.Proofs.Ytpiiagjfimdflaa

theorem bitsReads_holds : Rows.BitsReadsSaid := bitsReads.over
#print axioms bitsReads_holds
end Go.Proofs.Ytpiiagjfimdflaa

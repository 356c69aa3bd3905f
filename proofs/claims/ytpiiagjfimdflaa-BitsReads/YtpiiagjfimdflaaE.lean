/- A Reads that came in: two slices of bytes, a slice of Ops. -/
import Derived.Test.YtpiiagjfimdflaaT
import Derived.ProofKit
import Derived.OpenShut
namespace Go.Proofs.Ytpiiagjfimdflaa
open Go.ChangeShapes Go.WideShapes Go.Deep
set_option linter.unusedVariables false

section
variable {H : Type} {enc : TypeId × Value → H} {w : World} {base : Nat} {spare : Nat → Bool} {held : Bool}

theorem open_by {fuel : Nat} {v : Value} {y : DataW H × List MemPlace} (h : DataW.trod enc Try.prog w base spare held fuel 29 [v] = some y) :
    ∃ (a : Option Addr) (len cap : Nat) (bs : List Nat), v = .slice a len cap ∧ IsBy w v bs ∧ bs.length = len ∧ ∀ n ∈ bs, n < 256 := by
  rcases open_ints Try.underlying29 Try.underlying5 (by kernel_rfl) h with ⟨hcs, _⟩ | ⟨x, l, c, zs, hcs, _, hl, hm, hz, _, hcell, hwz⟩
  · simp only [List.cons.injEq, and_true] at hcs
    exact ⟨none, 0, 0, [], hcs, .inl (.inl ⟨hcs, rfl⟩), rfl, by simp⟩
  · simp only [List.cons.injEq, and_true] at hcs
    subst hcs
    have hlz : l ≤ zs.length := by rw [hz]; split <;> omega
    have hr : ∀ z ∈ zs, 0 ≤ z ∧ z ≤ 255 := fun z hz => bounds_u8 (hwz z hz)
    refine ⟨some x, l, c, (zs.take l).map Int.toNat, rfl, ?_, by simp; omega, fun n hn => ?_⟩
    · by_cases h0 : l = 0
      · subst h0; exact .inr ⟨x, c, rfl, by simp⟩
      · obtain ⟨b, off, spot⟩ := x
        have hc := hcell 0 (by omega)
        have hspot : spot = none := by simpa [Addr.add] using World.cell?_spot hc
        subst hspot
        have hll : ((zs.take l).map Int.toNat).length = l := by simp; omega
        refine .inl (.inr ⟨b, off, c, by rw [hll], fun i hi => ?_⟩)
        rw [hll] at hi
        have h1 := hcell i (by omega)
        rw [Addr.add_mid] at h1
        rw [h1]
        have hi2 : i < zs.length := by omega
        have h2 := hr zs[i] (List.getElem_mem hi2)
        simp [List.getD, hi2, hi]
        omega
    · simp only [List.mem_map] at hn
      obtain ⟨z, hz1, rfl⟩ := hn
      have := hr z (List.mem_of_mem_take hz1)
      omega

theorem list3 {α : Type} {l : Array α} (h : l.size = 3) : ∃ a b c, l = #[a, b, c] := by
  obtain ⟨l⟩ := l
  match l, h with
  | [a, b, c], _ => exact ⟨a, b, c, rfl⟩

theorem open_reads {fuel : Nat} {cs : Array Value} {y : DataW H × List MemPlace} (hs : cs.size = Try.prog.cellsOf 76) (h : DataW.trod enc Try.prog w base spare held fuel 76 cs.toList = some y) :
    ∃ (p0 p1 : Option Addr) (l0 c0 l1 c1 : Nat) (B0 B1 : List Nat) (a0 : Option Addr) (len cap : Nat) (d n m : Nat → Int) (x : Nat → Nat), cs = #[.slice p0 l0 c0, .slice p1 l1 c1, .slice a0 len cap] ∧
      IsBy w (.slice p0 l0 c0) B0 ∧ B0.length = l0 ∧ (∀ n ∈ B0, n < 256) ∧ IsBy w (.slice p1 l1 c1) B1 ∧ B1.length = l1 ∧ (∀ n ∈ B1, n < 256) ∧ IsOps w a0 len d n m x := by
  have c76 : Try.prog.cellsOf 76 = 3 := by kernel_rfl
  have c74 : Try.prog.cellsOf 74 = 2 := by kernel_rfl
  have c29 : Try.prog.cellsOf 29 = 1 := by kernel_rfl
  have c22 : Try.prog.cellsOf 22 = 1 := by kernel_rfl
  obtain ⟨v0, v1, v2, rfl⟩ := list3 (hs.trans c76)
  obtain ⟨y0, y1, k, _, _, h0, h1⟩ := trod_struct2 Try.underlying76 h
  simp only [c74, c22, List.drop_zero, List.drop_succ_cons, List.take_succ_cons, List.take_zero] at h0 h1
  obtain ⟨xs, k2, _, _, _, hxl, hx⟩ := DataW.trod_array Try.underlying74 h0
  have e0 := hx 0 (by omega)
  have e1 := hx 1 (by omega)
  simp only [c29, Nat.zero_mul, Nat.one_mul, List.drop_zero, List.drop_succ_cons, List.take_succ_cons, List.take_zero] at e0 e1
  rw [List.getElem?_eq_getElem (by omega)] at e0 e1
  obtain ⟨p0, l0, c0, B0, rfl, i0, j0, k0⟩ := open_by e0
  obtain ⟨p1, l1, c1, B1, rfl, i1, j1, k1⟩ := open_by e1
  have hv2 : ∃ a0 len cap, v2 = .slice a0 len cap := by
    rcases open_slice Try.underlying22 h1 with ⟨h2, _⟩ | ⟨ad, len', cap', mm, n, D, Pl, hcs, _⟩
    · simp only [List.cons.injEq, and_true] at h2; exact ⟨none, 0, 0, h2⟩
    · simp only [List.cons.injEq, and_true] at hcs; exact ⟨_, _, _, hcs⟩
  obtain ⟨a0, len, cap, rfl⟩ := hv2
  obtain ⟨d, n, m, x, ho⟩ := open_ops h1
  exact ⟨p0, p1, l0, c0, l1, c1, B0, B1, a0, len, cap, d, n, m, x, rfl, i0, j0, k0, i1, j1, k1, ho⟩
end
end Go.Proofs.Ytpiiagjfimdflaa

/- Writes: the count, what is armed, the closure; bytes laid behind a file. -/
import Derived.Test.YtiblnkiecpcdpaaJ1D
import Derived.Laws.AppendOwnNone
import Derived.Maps.AppendAt
namespace Go.Proofs.Ytiblnkiecpcdpaa
open Go.RowKit
set_option linter.unusedVariables false
set_option linter.unusedSimpArgs false

set_option maxRecDepth 100000 in
theorem due_no (w : World) (d : Nat) (h : w.cell? ⟨d, 5, none⟩ = some (.int .i64 0)) : Calls Try.prog 59 #[.pointer (some ⟨d, 5, none⟩)] w fun e w' => e = .returned (.bool false) ∧ w' = w := by
  go_enter Try.func59, Try.ntmps59
  go_wp2
  go_ret
  exact ⟨rfl, rfl⟩

set_option maxRecDepth 100000 in
theorem write_ok {B : Nat} {S : DS} {lk : Int} (w : World) (h : Dk B w lk S) (harm : S.ain = 0) (hwr : S.wr ≤ 1000000000) (k : Nat) (cap : Array Value) (R : World → Prop) (hen : ∀ args w, (callFunc k args).run Try.prog w = .ok (.enter k args) w)
    (hdo : Calls Try.prog k (#[.int .i64 9223372036854775807] ++ cap) (w.setCell ⟨S.d, 8, none⟩ (.int .i64 ((S.wr : Int) + 1))) fun e w' => e = .returned (.tuple #[]) ∧ R w') :
    Calls Try.prog 41 #[.pointer (some ⟨S.d, 0, none⟩), .func (.func k) #[] cap] w fun e w' => e = .returned (.int .i64 0) ∧ R w' := by
  have c8 := h.cell 8 (.int .i64 (S.wr : Int)) rfl
  have f8 := frozen_of h.dk 8
  have h1 := h.setWr (S.wr + 1)
  have c5 : (w.setCell ⟨S.d, 8, none⟩ (.int .i64 ((S.wr : Int) + 1))).cell? ⟨S.d, 5, none⟩ = some (.int .i64 0) := h1.cell 5 (.int .i64 0) (by rw [show (0 : Int) = ((S.ain : Nat) : Int) from by rw [harm]; rfl]; rfl)
  have HDO := hide hdo
  clear h h1 hdo
  go_enter Try.func41, Try.ntmps41
  go_wp2_with (go_at_call 59; refine (due_no _ S.d c5).mono ?_; rintro e w' ⟨rfl, rfl⟩)
  refine HDO.out.mono ?_
  rintro e w' ⟨rfl, hR⟩
  have HR := hide hR
  clear hR
  go_wp2_with fail
  go_ret
  exact ⟨rfl, HR.out⟩

set_option maxRecDepth 100000 in
/-- Bytes laid behind a file's. -/
theorem flay_any {B : Nat} (w : World) (f : Nat) (v : Value) (su : Int) (a : List Nat) (vb : Value) (bs : List Nat) (hf : w.heap[f]? = some (.cells #[v, .int .i64 su] 83 (0, 0))) (ho : w.ownsRow B 5 1 v a.length (bytesV a)) (hb : IsBy w vb bs) (hB : B ≤ w.heap.size) (hl : a.length + bs.length ≤ 1000000000) :
    Calls Try.prog 61 #[.pointer (some ⟨f, 0, none⟩), vb] w fun e w' => e = .returned (.tuple #[]) ∧ ∃ v2 w2, w' = w2.setCell ⟨f, 0, none⟩ v2 ∧ w2.ownsRow B 5 1 v2 (a ++ bs).length (bytesV (a ++ bs)) ∧ w.grownBy w2 v.ownBlock ∧ (v2.ownBlock = v.ownBlock ∨ v2.ownBlock = some w.heap.size) := by
  obtain ⟨i5, hi5⟩ := info5
  have Hi := hide hi5
  clear hi5
  have HO := hide ho
  have c0 : w.cell? ⟨f, 0, none⟩ = some v := by rw [cell_of_row w f 0 _ _ (0, 0) hf]; rfl
  have HF := hide hf
  obtain ⟨p, cap, hv⟩ : ∃ p cap, v = .slice p a.length cap := by
    rcases ho.2 with ⟨e1, e2⟩ | ⟨g, cap, cur, e1, _⟩
    · exact ⟨none, 0, by rw [e1, e2]⟩
    · exact ⟨_, cap, e1⟩
  have hfv : some f ≠ v.ownBlock := fun e => by
    rcases ho.2 with ⟨e1, _⟩ | ⟨g', cap, cur, e1, _, hh, _⟩
    · rw [e1] at e; simp [Value.ownBlock] at e
    · rw [e1] at e; simp [Value.ownBlock] at e; subst e; rw [hf] at hh; simp at hh
  have HV := hide hv
  have HFV := hide hfv
  have HLT := hide (heap_lt hf)
  obtain ⟨na, hna⟩ : ∃ na, a.length = na := ⟨_, rfl⟩
  have Hna := hide hna
  rw [hna] at hl HO HV
  clear hf hv hfv hna ho
  obtain rfl := HV.out
  rcases by_news hb with ⟨rfl, rfl⟩ | ⟨ad, capb, rfl, hnews⟩
  · clear hb
    have f0 := frozen_of HF.out 0
    go_enter Try.func61, Try.ntmps61
    go_wp2_with (at_builtin; refine wpList_append_own_none rfl _ _ _ rfl B 5 i5 1 Try.underlying34 Hi.out.1 (.slice p na cap) na (bytesV a) rfl HO.out rfl ?c6)
    go_end0
    refine ⟨rfl, _, w, rfl, ?_, World.grownBy.refl _ _, .inl rfl⟩
    rw [Hna.out]; exact HO.out
  · have HN := hide hnews
    clear hb hnews
    obtain ⟨nb, hnb⟩ : ∃ nb, bs.length = nb := ⟨_, rfl⟩
    have Hnb := hide hnb
    rw [hnb] at hl ⊢
    clear hnb
    go_enter Try.func61, Try.ntmps61
    go_wp2_with (at_builtin; refine wpList_append_own_at _ rfl _ _ _ rfl B 5 i5 (.int .u8 0) 1 1 Try.underlying34 Hi.out.1 Hi.out.2.1 Hi.out.2.2.1 Hi.out.2.2.2 rfl (by decide) (.slice p na cap) na (bytesV a) rfl HO.out ad nb capb (bytesV bs) rfl ?f2 ?f3 (bytesV_cell bs) ?f4 ?f5 ?f7 ?f6)
    case f2 => first | exact Hnb.out | (rw [Nat.mul_one, ← Hnb.out]; simp)
    case f3 => exact HN.out
    case f4 => unfold maxLen; omega
    case f5 => omega
    case f6 =>
      intro v2 w2 ho2 hg2 _ hat
      obtain ⟨p2, cap2, rfl⟩ : ∃ p cap, v2 = .slice p (na + nb) cap := by
        rcases ho2.2 with ⟨e1, e2⟩ | ⟨g, cap, cur, e1, _⟩
        · exact ⟨none, 0, by rw [e1, e2]⟩
        · exact ⟨_, cap, e1⟩
      have HF2 : Hid (w2.heap[f]? = some (.cells #[.slice p na cap, .int .i64 su] 83 (0, 0))) := (hg2.block f HLT.out HFV.out).trans HF.out
      have f0 := frozen_of HF2.out 0
      have c02 : w2.cell? ⟨f, 0, none⟩ = some (.slice p na cap) := by rw [cell_of_row w2 f 0 _ _ (0, 0) HF2.out]; rfl
      have HO2 := hide ho2
      have HG2 := hide hg2
      have HAT := hide hat
      clear ho2 hg2 hat
      go_wp2_with fail
      go_end0
      refine ⟨rfl, _, w2, rfl, ?_, HG2.out, HAT.out⟩
      rw [List.length_append, bytesV_app, Hna.out, Hnb.out]; exact HO2.out

end Go.Proofs.Ytiblnkiecpcdpaa

/- The law's Book: grow, Look. -/
import Derived.Test.YtpiiagjfimdflaaWl
namespace Go.Proofs.Ytpiiagjfimdflaa
open Go.RowKit
open M
set_option linter.unusedVariables false

theorem BookSt.setD {w : World} {NB base : Nat} {rb ro : Option Nat} {E : List Ent} {A T D U : Nat} (h : BookSt w NB base rb ro E A T D U) : BookSt (w.setCell ⟨NB, 70, none⟩ (.int .i64 T)) NB base rb ro E A T T U := by
  obtain ⟨vb, b1, b2, b3⟩ := h.rows
  obtain ⟨vo, o1, o2, o3⟩ := h.marks
  have hb := h.le.2.2.2.1
  have ne : ∀ j v, j ≠ 70 → w.cell? ⟨NB, j, none⟩ = some v → (w.setCell ⟨NB, 70, none⟩ (.int .i64 T)).cell? ⟨NB, j, none⟩ = some v := fun j v hj hc => by rw [cell_setCell_ne _ _ _ _ _ hj]; exact hc
  exact ⟨h.nil.set 70 _ (by omega), ⟨vb, ne _ _ (by omega) b1, ownsRow_setOther b2 _ _ _ hb, b3⟩, ⟨vo, ne _ _ (by omega) o1, ownsRow_setOther o2 _ _ _ hb, o3⟩, ne _ _ (by omega) h.at_, ne _ _ (by omega) h.turn, cell_setCell_eq _ _ _ _ _ h.done, ne _ _ (by omega) h.used,
    fun e he => ⟨ownsRow_setOther (h.ok e he).1 _ _ _ hb, (h.ok e he).2⟩, h.le.1, Nat.le_refl _, h.le.2.2⟩

def Fresh (E : List Ent) (A : Nat) : Prop := ∀ i e, A ≤ i → E[i]? = some e → e.n ≤ 5000 ∧ ∃ p, e.v = .slice p e.n e.n

set_option maxRecDepth 100000 in
set_option maxHeartbeats 4000000 in
theorem grow_any (NB base : Nat) (rb ro : Option Nat) (E : List Ent) (A T D U : Nat) (w : World) (h : BookSt w NB base rb ro E A T D U) (hE : E.length ≤ 100000) (hbase : base ≤ w.heap.size) (hfr : Fresh E A) :
    Calls Try.prog 51 #[.pointer (some ⟨NB, 0, none⟩)] w fun q w' => q = .returned (.tuple #[]) ∧ GrownPost w NB base rb ro E A T T U w' := by
  have HG : Hid (Calls Try.prog 79 #[.pointer (some ⟨NB, 0, none⟩)] w fun q w' => q = .returned (.tuple #[]) ∧ GrownPost w NB base rb ro E A T D U w') := growBytes_any NB base rb ro E A T D U w h hE hbase hfr
  clear h hfr
  go_enter Try.func51, Try.ntmps51
  go_wp2_with fail
  refine HG.out.mono ?_
  rintro e w1 ⟨rfl, rb', ro', X, BS, hX, s1, s2, xn, C⟩
  have HN : Hid (BookNil w1 NB) := BS.nil
  have cT := BS.turn
  have cD := BS.done
  have fD := BS.nil.fz 70 (by omega)
  have HF : Hid (GrownPost w NB base rb ro E A T T U (w1.setCell ⟨NB, 70, none⟩ (.int .i64 T))) := ⟨rb', ro', X, BS.setD, hX, s1, s2, xn, C.trans' (Chg.set _ _ _ _ (.inl rfl))⟩
  clear BS hX s1 s2 xn C
  go_wp2_with fail
  refine (grow80 NB _ HN.out).mono ?_
  rintro e w80 ⟨rfl, rfl⟩
  go_wp2_with fail
  refine (grow81 NB _ HN.out).mono ?_
  rintro e w81 ⟨rfl, rfl⟩
  go_wp2_with fail
  refine (grow82 NB _ HN.out).mono ?_
  rintro e w82 ⟨rfl, rfl⟩
  go_wp2_with fail
  refine (grow83 NB _ HN.out).mono ?_
  rintro e w83 ⟨rfl, rfl⟩
  go_wp2_with fail
  refine (grow84 NB _ HN.out).mono ?_
  rintro e w84 ⟨rfl, rfl⟩
  go_wp2_with fail
  refine (grow85 NB _ HN.out).mono ?_
  rintro e w85 ⟨rfl, rfl⟩
  go_wp2_with fail
  refine (grow86 NB _ HN.out).mono ?_
  rintro e w86 ⟨rfl, rfl⟩
  go_wp2_with fail
  refine (grow87 NB _ HN.out).mono ?_
  rintro e w87 ⟨rfl, rfl⟩
  go_wp2_with fail
  refine (grow88 NB _ HN.out).mono ?_
  rintro e w88 ⟨rfl, rfl⟩
  go_wp2_with fail
  refine (grow89 NB _ HN.out).mono ?_
  rintro e w89 ⟨rfl, rfl⟩
  go_wp2_with fail
  refine (grow90 NB _ HN.out).mono ?_
  rintro e w90 ⟨rfl, rfl⟩
  go_wp2_with fail
  refine (grow91 NB _ HN.out).mono ?_
  rintro e w91 ⟨rfl, rfl⟩
  go_wp2_with fail
  refine (grow92 NB _ HN.out).mono ?_
  rintro e w92 ⟨rfl, rfl⟩
  go_wp2_with fail
  refine (grow93 NB _ HN.out).mono ?_
  rintro e w93 ⟨rfl, rfl⟩
  go_wp2_with fail
  refine (grow94 NB _ HN.out).mono ?_
  rintro e w94 ⟨rfl, rfl⟩
  go_wp2_with fail
  refine (grow95 NB _ HN.out).mono ?_
  rintro e w95 ⟨rfl, rfl⟩
  go_wp2_with fail
  refine (grow96 NB _ HN.out).mono ?_
  rintro e w96 ⟨rfl, rfl⟩
  go_wp2_with fail
  refine (grow97 NB _ HN.out).mono ?_
  rintro e w97 ⟨rfl, rfl⟩
  go_wp2_with fail
  refine (grow98 NB _ HN.out).mono ?_
  rintro e w98 ⟨rfl, rfl⟩
  go_wp2_with fail
  refine (grow99 NB _ HN.out).mono ?_
  rintro e w99 ⟨rfl, rfl⟩
  go_wp2_with fail
  refine (grow100 NB _ HN.out).mono ?_
  rintro e w100 ⟨rfl, rfl⟩
  go_wp2_with fail
  refine (grow101 NB _ HN.out).mono ?_
  rintro e w101 ⟨rfl, rfl⟩
  go_wp2_with fail
  go_end0
  exact ⟨rfl, HF.out⟩

/-- Behind Look. -/
def LookPost (w : World) (NB base : Nat) (rb ro : Option Nat) (E : List Ent) (A T U : Nat) (w' : World) : Prop :=
  ∃ rb' ro' X A' D', BookSt w' NB base rb' ro' (E ++ X) A' T D' U ∧ (A' = (E ++ X).length ∨ (X = [] ∧ A' = A)) ∧ X.length ≤ 96 * (E.length - A) ∧ RowStep w rb rb' ∧ RowStep w ro ro' ∧ (∀ e ∈ X, ∀ g, e.v.ownBlock = some g → w.heap.size ≤ g) ∧ Chg (fun k => k = NB ∨ rb = some k ∨ ro = some k) w w'

theorem BookSt.drewN {w : World} {NB base : Nat} {rb ro : Option Nat} {E : List Ent} {A T D U : Nat} (h : BookSt w NB base rb ro E A T D U) (m : Nat) : BookSt (w.drewN m) NB base rb ro E A T D U :=
  h.chg (S := fun _ => False) ⟨rfl, rfl, rfl, Nat.le_refl _, fun _ _ _ => rfl⟩ (fun _ _ h => h)

theorem Chg.drewN {S : Nat → Prop} (w : World) (m : Nat) : Chg S w (w.drewN m) := ⟨rfl, rfl, rfl, Nat.le_refl _, fun _ _ _ => rfl⟩

set_option maxRecDepth 100000 in
set_option maxHeartbeats 4000000 in
theorem look_book (NB base : Nat) (rb ro : Option Nat) (E : List Ent) (A T D U : Nat) (w : World) (h : BookSt w NB base rb ro E A T D U) (hE : E.length + 96 * (E.length - A) ≤ 100000) (hbase : base ≤ w.heap.size) (hfr : Fresh E A) :
    Calls Try.prog 13 #[.pointer (some ⟨NB, 0, none⟩)] w fun q w' => q = .returned (.bool true) ∧ LookPost w NB base rb ro E A T U w' := by
  have HH : Hid (Calls Try.prog 50 #[.pointer (some ⟨NB, 0, none⟩)] w fun e w' => e = .returned (.bool true) ∧ ∃ m, w' = w.drewN m) := holds_any NB base rb ro E A T D U w h (by omega)
  have Hh : Hid (BookSt w NB base rb ro E A T D U ∧ Fresh E A) := ⟨h, hfr⟩
  clear h hfr
  go_enter Try.func13, Try.ntmps13
  go_wp2_with fail
  refine HH.out.mono ?_
  rintro e w1 ⟨rfl, m, hw⟩
  have B1 : BookSt w1 NB base rb ro E A T D U := by rw [hw]; exact Hh.out.1.drewN m
  have C1 : Chg (fun k => k = NB ∨ rb = some k ∨ ro = some k) w w1 := by rw [hw]; exact Chg.drewN _ _
  have cT := B1.turn
  have cD := B1.done
  have H1 : Hid (BookSt w1 NB base rb ro E A T D U ∧ Chg (fun k => k = NB ∨ rb = some k ∨ ro = some k) w w1) := ⟨B1, C1⟩
  have hz1 := C1.size
  clear hw B1 C1
  by_cases hDT : D = T
  · have hb : ((D : Int) == (T : Int)) = true := by rw [beq_iff_eq]; omega
    go_wp2_with fail
    go_quiet (fail)
    go_wp2_with fail
    go_ret
    refine ⟨rfl, rb, ro, [], A, D, ?_, .inr ⟨rfl, rfl⟩, by simp, .inl rfl, .inl rfl, fun e he => by simp at he, H1.out.2.trans' (Chg.drewN _ _)⟩
    rw [List.append_nil]; exact H1.out.1.drewN _
  · have hb : ((D : Int) == (T : Int)) = false := by rw [beq_eq_false_iff_ne]; omega
    go_wp2_with fail
    go_quiet (fail)
    have B2 : BookSt (w1.drewN nq) NB base rb ro E A T D U := H1.out.1.drewN nq
    have C2 : Chg (fun k => k = NB ∨ rb = some k ∨ ro = some k) w (w1.drewN nq) := H1.out.2.trans' (Chg.drewN _ _)
    generalize w1.drewN nq = w2 at *
    have HG : Hid (Calls Try.prog 51 #[.pointer (some ⟨NB, 0, none⟩)] w2 fun q w' => q = .returned (.tuple #[]) ∧ GrownPost w2 NB base rb ro E A T T U w') := grow_any NB base rb ro E A T D U w2 B2 (by omega) (Nat.le_trans hbase C2.size) Hh.out.2
    have HC2 : Hid (Chg (fun k => k = NB ∨ rb = some k ∨ ro = some k) w w2) := C2
    clear B2 C2 H1 cT cD
    go_wp2_with fail
    refine HG.out.mono ?_
    rintro e w3 ⟨rfl, rb', ro', X, BS, hX, s1, s2, xn, C⟩
    have HH3 : Hid (Calls Try.prog 50 #[.pointer (some ⟨NB, 0, none⟩)] w3 fun e w' => e = .returned (.bool true) ∧ ∃ m, w' = w3.drewN m) := holds_any NB base rb' ro' (E ++ X) _ T T U w3 BS (by simp; omega)
    have HF : Hid (∀ m, LookPost w NB base rb ro E A T U (w3.drewN m)) := fun m => by
      have hz := HC2.out.size
      refine ⟨rb', ro', X, (E ++ X).length, T, BS.drewN m, .inl rfl, hX, ?_, ?_, fun e he g hg => Nat.le_trans hz (xn e he g hg), (HC2.out.trans' C).trans' (Chg.drewN _ _)⟩
      · rcases s1 with s1 | ⟨gg, s1, s3⟩
        · exact .inl s1
        · exact .inr ⟨gg, s1, Nat.le_trans hz s3⟩
      · rcases s2 with s2 | ⟨gg, s2, s3⟩
        · exact .inl s2
        · exact .inr ⟨gg, s2, Nat.le_trans hz s3⟩
    clear BS hX s1 s2 xn C HC2
    go_wp2_with fail
    refine HH3.out.mono ?_
    rintro e w4 ⟨rfl, m, rfl⟩
    have HF2 : Hid (LookPost w NB base rb ro E A T U (w3.drewN m)) := HF.out m
    clear HF
    go_wp2_with fail
    go_ret
    exact ⟨rfl, HF2.out⟩

end Go.Proofs.Ytpiiagjfimdflaa

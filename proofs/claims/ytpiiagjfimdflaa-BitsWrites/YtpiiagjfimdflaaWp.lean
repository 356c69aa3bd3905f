/- The law's Late: same, Settle. -/
import Derived.Test.YtpiiagjfimdflaaWo
namespace Go.Proofs.Ytpiiagjfimdflaa
open Go.RowKit
open M
set_option linter.unusedVariables false

theorem by_of_row {w : World} {base n : Nat} {v : Value} {bs : List Nat} (h : w.ownsRow base 5 1 v n (bytesV bs)) : IsBy w v bs := by
  have hl : bs.length = n := by have := h.1; simpa using this
  rcases h.2 with ⟨rfl, rfl⟩ | ⟨g, cap, cur, rfl, _⟩
  · exact .inl (.inl ⟨rfl, List.length_eq_zero_iff.1 hl⟩)
  · exact .inl (isBytes_own h hl)

theorem GOk.by_got {w : World} {base : Nat} {g : Got} (h : GOk w base g) : IsBy w g.v g.bs := by_of_row h.got

theorem GOk.by_want {w : World} {base : Nat} {g : Got} (h : GOk w base g) : IsBy w g.u g.bs := by
  obtain ⟨b, cap, k1, _, _, k4⟩ := h.want
  rw [k1]
  exact .inl (.inr ⟨b, 0, cap, rfl, fun i hi => by rw [Nat.zero_add]; exact k4 i hi⟩)

theorem IsBy.drewN {w : World} {v : Value} {bs : List Nat} (h : IsBy w v bs) (m : Nat) : IsBy (w.drewN m) v bs := h

set_option maxRecDepth 100000 in
set_option maxHeartbeats 8000000 in
theorem same_any (NL base : Nat) (rg rw_ : Option Nat) (G : List Got) (w : World) (h : LateSt w NL base rg rw_ G) (hG : G.length ≤ 100000) :
    Calls Try.prog 48 #[.pointer (some ⟨NL, 0, none⟩)] w fun q w' => q = .returned (.bool true) ∧ ∃ m, w' = w.drewN m := by
  obtain ⟨vg, a1, a2, _⟩ := h.gots
  obtain ⟨vw, b1, b2, _⟩ := h.wants
  obtain ⟨pg, cg, hvg, -⟩ := row_form a2
  obtain ⟨pw, cw, hvw, -⟩ := row_form b2
  have HOK : Hid (∀ g ∈ G, GOk w base g) := h.ok
  have HB : Hid (0 < G.length → ∃ b, pg = some ⟨b, 0, none⟩ ∧ ∀ (i : Nat) g, G[i]? = some g → w.cell? ⟨b, i, none⟩ = some g.v) := fun h0 => by
    obtain ⟨b, h1, _, _, h2⟩ := row_at a2 hvg h0
    exact ⟨b, h1, fun i g hg => h2 i g.v (by simp [hg])⟩
  have HM : Hid (0 < G.length → ∃ b, pw = some ⟨b, 0, none⟩ ∧ ∀ (i : Nat) g, G[i]? = some g → w.cell? ⟨b, i, none⟩ = some g.u) := fun h0 => by
    obtain ⟨b, h1, _, _, h2⟩ := row_at b2 hvw h0
    exact ⟨b, h1, fun i g hg => h2 i g.u (by simp [hg])⟩
  subst hvg
  subst hvw
  obtain ⟨nG, hnG⟩ : ∃ nG, nG = G.length := ⟨_, rfl⟩
  have HnG : Hid (nG = G.length) := hnG
  rw [← hnG] at a1 b1 hG
  clear h a2 b2 hnG
  go_enter Try.func48, Try.ntmps48
  go_wp2
  go_loopw [3] (fun t3 wr => ∃ k : Nat, k ≤ nG ∧ t3 = .int .i64 k ∧ Hid (∃ m, wr = w.drewN m)) (fun t3 _ => nG - (intOf t3).toNat)
  case atStart => exact ⟨0, by omega, rfl, ⟨0, rfl⟩⟩
  case round =>
    obtain ⟨k, hk, rfl, Hm⟩ := hrel
    have hcell : ∀ a, wr.cell? a = w.cell? a := fun a => by obtain ⟨m, rfl⟩ := Hm.out; rfl
    have a1' := (hcell ⟨NL, 0, none⟩).trans a1
    have b1' := (hcell ⟨NL, 1, none⟩).trans b1
    by_cases hlt : k < nG
    · have hkI : (k : Int) < (nG : Int) := by omega
      obtain ⟨g, hg⟩ : ∃ g, G[k]? = some g := ⟨G[k]'(by have := HnG.out; omega), List.getElem?_eq_getElem _⟩
      have hok := HOK.out g (List.mem_of_getElem? hg)
      obtain ⟨gb, rfl, hgb⟩ := HB.out (by have := HnG.out; omega)
      obtain ⟨gw, rfl, hgw⟩ := HM.out (by have := HnG.out; omega)
      have d1 := (hcell ⟨gb, k, none⟩).trans (hgb k g hg)
      have d2 := (hcell ⟨gw, k, none⟩).trans (hgw k g hg)
      have hcv1 : ∀ n, (convert 29 9 g.v).run Try.prog (wr.drewN n) = .ok (.string (strOf g.bs)) (wr.drewN n) := fun n => by
        obtain ⟨m, rfl⟩ := Hm.out
        exact convert_by _ _ _ (by rw [World.drewN_drewN]; exact hok.by_got.drewN _)
      have hcv2 : ∀ n, (convert 29 9 g.u).run Try.prog (wr.drewN n) = .ok (.string (strOf g.bs)) (wr.drewN n) := fun n => by
        obtain ⟨m, rfl⟩ := Hm.out
        exact convert_by _ _ _ (by rw [World.drewN_drewN]; exact hok.by_want.drewN _)
      clear hcell hok hgb hgw hg
      generalize strOf g.bs = s at *
      generalize g.v = gv at *
      generalize g.u = gu at *
      go_wp2_with fail
      go_quiet (fail)
      go_wp2_with fail
      go_roundw
      case rel =>
        refine ⟨k + 1, by omega, by go_num, ?_⟩
        obtain ⟨m, rfl⟩ := Hm.out
        exact ⟨m + nq, World.drewN_drewN _ _ _⟩
      case measure => simp [intOf]; omega
    · clear hcell
      go_wp2_with fail
      go_ret
      exact ⟨rfl, Hm.out⟩

end Go.Proofs.Ytpiiagjfimdflaa

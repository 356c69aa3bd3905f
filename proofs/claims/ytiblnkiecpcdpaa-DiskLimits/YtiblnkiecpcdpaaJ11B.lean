/- A write, whatever is armed. -/
import Derived.Test.YtiblnkiecpcdpaaJ11A
namespace Go.Proofs.Ytiblnkiecpcdpaa
open Go.RowKit
open Go.MuLone (lock_free unlock_deferred run_callFunc_enter)
set_option linter.unusedVariables false
set_option linter.unusedSimpArgs false

/-- What a write leaves, and what it tells: f is what it does, with so many bytes kept of it. -/
def PS.wrote (p : PS) (f : Int → Con → Con) : PS :=
  if p.ain = 1 then { p with con := Con.each (if 0 < p.keep then f p.keep p.con else p.con) (lostF p.lose), off := true, ain := 0, keep := 0, lose := 0, wr := p.wr + 1 }
  else { p with con := f 9223372036854775807 p.con, ain := p.ain - 1, wr := p.wr + 1 }
def PS.code (p : PS) : Int := if p.ain = 1 then 104 else 0

/-- What is armed is what a machine may hold. -/
def PS.arms (p : PS) : Prop := p.ain ≤ 9223372036854775807 ∧ (-9223372036854775808 ≤ p.keep ∧ p.keep ≤ 9223372036854775807) ∧ -9223372036854775808 ≤ p.lose ∧ p.lose ≤ 9223372036854775807

theorem Dk.setAin {B : Nat} {w : World} {lk : Int} {S : DS} (h : Dk B w lk S) (n : Nat) : Dk B (w.setCell ⟨S.d, 5, none⟩ (.int .i64 (n : Int))) lk { S with ain := n } :=
  h.set (S' := { S with ain := n }) (by rw [heap_set_at h.dk]; rfl) (fun k hk => Below.heap_setCell _ _ _ _ hk) rfl

set_option maxRecDepth 100000 in
theorem due_some (w : World) (d k : Nat) (h : w.cell? ⟨d, 5, none⟩ = some (.int .i64 ((k + 1 : Nat) : Int))) (hf : w.frozen? ⟨d, 5, none⟩ = false) (hk : k + 1 ≤ 9223372036854775807) :
    Calls Try.prog 59 #[.pointer (some ⟨d, 5, none⟩)] w fun e w' => e = .returned (.bool (decide (k = 0))) ∧ w' = w.setCell ⟨d, 5, none⟩ (.int .i64 (k : Int)) := by
  have h0 : ¬ (((k + 1 : Nat) : Int) = 0) := by omega
  have hw : IntKind.i64.wrap (((k + 1 : Nat) : Int) - 1) = (k : Int) := by rw [IntKind.wrap_i64]; omega
  have hw2 : wrap64 (((k + 1 : Nat) : Int) - 1) = (k : Int) := by unfold wrap64; omega
  have c2 : (w.setCell ⟨d, 5, none⟩ (.int .i64 (k : Int))).cell? ⟨d, 5, none⟩ = some (.int .i64 (k : Int)) := World.cell?_setCell_same _ _ _ (by rw [h])
  obtain ⟨m, hm⟩ : ∃ m : Int, ((k + 1 : Nat) : Int) = m := ⟨_, rfl⟩
  rw [hm] at h h0 hw hw2
  clear hm
  by_cases hz : k = 0
  · subst hz
    go_enter Try.func59, Try.ntmps59
    go_wp2
    go_ret
    exact ⟨rfl, rfl⟩
  · have hz2 : ¬ ((k : Int) = 0) := by omega
    go_enter Try.func59, Try.ntmps59
    go_wp2
    go_ret
    exact ⟨by simp [hz], rfl⟩

section
variable {B : Nat} {S : DS} {lk : Int} {w : World} {k : Nat} {cap : Array Value} {f : Int → Con → Con}

/-- What a write does, as the closure tells it. -/
def Does (B : Nat) (w : World) (lk : Int) (S : DS) (k : Nat) (cap : Array Value) (f : Int → Con → Con) : Prop :=
  ∀ (kp : Int) (a b : Nat) (w1 : World), 0 < kp → kp ≤ 9223372036854775807 → Dk B w1 lk { S with ain := a, wr := b } → Fr w (Fp S) w1 (Fp S) → Calls Try.prog k (#[.int .i64 kp] ++ cap) w1 fun e w' => e = .returned (.tuple #[]) ∧ ∃ S' : DS, S'.d = S.d ∧ S'.ps = { S.ps with con := f kp S.ps.con, ain := a, wr := b } ∧ Dk B w' lk S' ∧ Fr w1 (Fp S) w' (Fp S')

set_option maxRecDepth 100000 in
theorem write_more (h : Dk B w lk S) (hA : S.ps.arms) (h1 : S.ain ≠ 1) (hwr : S.wr ≤ 1000000000) (hen : ∀ args w, (callFunc k args).run Try.prog w = .ok (.enter k args) w) (hdo : Does B w lk S k cap f) :
    Calls Try.prog 41 #[.pointer (some ⟨S.d, 0, none⟩), .func (.func k) #[] cap] w fun e w' => e = .returned (.int .i64 0) ∧ ∃ S' : DS, S'.d = S.d ∧ S'.ps = S.ps.wrote f ∧ Dk B w' lk S' ∧ Fr w (Fp S) w' (Fp S') := by
  have hps : S.ps.wrote f = { S.ps with con := f 9223372036854775807 S.ps.con, ain := S.ain - 1, wr := S.wr + 1 } := if_neg h1
  rw [hps]
  by_cases h0 : S.ain = 0
  · have hr : Fr w (Fp S) (w.setCell ⟨S.d, 8, none⟩ (.int .i64 ((S.wr : Int) + 1))) (Fp S) := Fr.setCell (.inl rfl) _
    refine write_ok w h h0 hwr k cap _ hen ((hdo 9223372036854775807 S.ain (S.wr + 1) _ (by decide) (by decide) (h.setWr (S.wr + 1)) hr).mono ?_)
    rintro e w' ⟨rfl, S', e1, e2, e3, e4⟩
    exact ⟨rfl, S', e1, by rw [e2, h0], e3, hr.trans e4⟩
  · obtain ⟨n, hn⟩ : ∃ n, S.ain = n + 1 := ⟨S.ain - 1, by omega⟩
    have hn0 : ¬ n = 0 := by omega
    have c8 := h.cell 8 (.int .i64 (S.wr : Int)) rfl
    have f8 := frozen_of h.dk 8
    have h2 := h.setWr (S.wr + 1)
    have HDU : Hid (Calls Try.prog 59 #[.pointer (some ⟨S.d, 5, none⟩)] (w.setCell ⟨S.d, 8, none⟩ (.int .i64 ((S.wr : Int) + 1))) fun e w' => e = .returned (.bool false) ∧ w' = (w.setCell ⟨S.d, 8, none⟩ (.int .i64 ((S.wr : Int) + 1))).setCell ⟨S.d, 5, none⟩ (.int .i64 (n : Int))) := by
      refine (due_some _ S.d n (h2.cell 5 _ (by rw [← hn]; rfl)) (frozen_of h2.dk 5) (by have := hA.1; have e : S.ps.ain = S.ain := rfl; omega)).mono ?_
      rintro e w' ⟨rfl, rfl⟩
      exact ⟨by simp [hn0], rfl⟩
    have h3 := h2.setAin n
    have hr : Fr w (Fp S) ((w.setCell ⟨S.d, 8, none⟩ (.int .i64 ((S.wr : Int) + 1))).setCell ⟨S.d, 5, none⟩ (.int .i64 (n : Int))) (Fp S) := (Fr.setCell (.inl rfl) _).trans (Fr.setCell (.inl rfl) _)
    have HDO : Hid (Calls Try.prog k (#[.int .i64 9223372036854775807] ++ cap) ((w.setCell ⟨S.d, 8, none⟩ (.int .i64 ((S.wr : Int) + 1))).setCell ⟨S.d, 5, none⟩ (.int .i64 (n : Int))) fun e w' => e = .returned (.tuple #[]) ∧ ∃ S' : DS, S'.d = S.d ∧ S'.ps = { S.ps with con := f 9223372036854775807 S.ps.con, ain := S.ain - 1, wr := S.wr + 1 } ∧ Dk B w' lk S' ∧ Fr w (Fp S) w' (Fp S')) := by
      refine (hdo 9223372036854775807 n (S.wr + 1) _ (by decide) (by decide) h3 hr).mono ?_
      rintro e w' ⟨rfl, S', e1, e2, e3, e4⟩
      exact ⟨rfl, S', e1, by rw [e2, hn]; rfl, e3, hr.trans e4⟩
    clear h h2 h3 hr hdo hps hn hA
    go_enter Try.func41, Try.ntmps41
    go_wp2_with (go_at_call 59; refine HDU.out.mono ?_; rintro e w' ⟨rfl, rfl⟩)
    refine HDO.out.mono ?_
    rintro e w' ⟨rfl, hR⟩
    have HR := hide hR
    clear hR
    go_wp2_with fail
    go_ret
    exact ⟨rfl, HR.out⟩

set_option maxRecDepth 100000 in
theorem write_torn (h : Dk B w lk S) (hA : S.ps.arms) (h1 : S.ain = 1) (hwr : S.wr ≤ 1000000000) (hen : ∀ args w, (callFunc k args).run Try.prog w = .ok (.enter k args) w) (hdo : Does B w lk S k cap f) :
    Calls Try.prog 41 #[.pointer (some ⟨S.d, 0, none⟩), .func (.func k) #[] cap] w fun e w' => e = .returned (.int .i64 104) ∧ ∃ S' : DS, S'.d = S.d ∧ S'.ps = S.ps.wrote f ∧ Dk B w' lk S' ∧ Fr w (Fp S) w' (Fp S') := by
  have hps : S.ps.wrote f = { S.ps with con := Con.each (if 0 < S.keep then f S.keep S.ps.con else S.ps.con) (lostF S.lose), off := true, ain := 0, keep := 0, lose := 0, wr := S.wr + 1 } := if_pos h1
  rw [hps]
  have c8 := h.cell 8 (.int .i64 (S.wr : Int)) rfl
  have f8 := frozen_of h.dk 8
  have h2 := h.setWr (S.wr + 1)
  have HDU : Hid (Calls Try.prog 59 #[.pointer (some ⟨S.d, 5, none⟩)] (w.setCell ⟨S.d, 8, none⟩ (.int .i64 ((S.wr : Int) + 1))) fun e w' => e = .returned (.bool true) ∧ w' = (w.setCell ⟨S.d, 8, none⟩ (.int .i64 ((S.wr : Int) + 1))).setCell ⟨S.d, 5, none⟩ (.int .i64 0)) := by
    refine (due_some _ S.d 0 (h2.cell 5 _ (by show some (Value.int .i64 ((S.ain : Nat) : Int)) = _; rw [h1])) (frozen_of h2.dk 5) (by decide)).mono ?_
    rintro e w' ⟨rfl, rfl⟩
    exact ⟨by simp, rfl⟩
  have h3 := h2.setAin 0
  have hr : Fr w (Fp S) ((w.setCell ⟨S.d, 8, none⟩ (.int .i64 ((S.wr : Int) + 1))).setCell ⟨S.d, 5, none⟩ (.int .i64 0)) (Fp S) := (Fr.setCell (.inl rfl) _).trans (Fr.setCell (.inl rfl) _)
  obtain ⟨w1, hw1⟩ : ∃ w1, w1 = (w.setCell ⟨S.d, 8, none⟩ (.int .i64 ((S.wr : Int) + 1))).setCell ⟨S.d, 5, none⟩ (.int .i64 0) := ⟨_, rfl⟩
  have h3' : Dk B w1 lk { S with ain := 0, wr := S.wr + 1 } := by rw [hw1]; exact h3
  rw [← hw1] at hr HDU
  have c6 : w1.cell? ⟨S.d, 6, none⟩ = some (.int .i64 S.keep) := h3'.cell 6 _ rfl
  have HF : Hid (∀ (w2 : World) (S2 : DS) (c : Con), S2.d = S.d → S2.ps = { S.ps with con := c, ain := 0, wr := S.wr + 1 } → Dk B w2 lk S2 → Fr w (Fp S) w2 (Fp S2) → Calls Try.prog 60 #[.pointer (some ⟨S.d, 0, none⟩)] w2 fun e w' => e = .returned (.tuple #[]) ∧ ∃ S' : DS, S'.d = S.d ∧ S'.ps = { S.ps with con := Con.each c (lostF S.lose), off := true, ain := 0, keep := 0, lose := 0, wr := S.wr + 1 } ∧ Dk B w' lk S' ∧ Fr w (Fp S) w' (Fp S')) := fun w2 S2 c e1 e2 e3 e4 => by
    have hl : S2.lose = S.lose := congrArg PS.lose e2
    rw [← e1]
    refine (dfail_any w2 e3 (by rw [hl]; exact hA.2.2.1) (by rw [hl]; exact hA.2.2.2)).mono ?_
    rintro e w' ⟨rfl, S', k1, k2, k3, k4⟩
    exact ⟨rfl, S', k1, by rw [k2, hl, e2], k3, e4.trans k4⟩
  by_cases hk : 0 < S.keep
  · rw [if_pos hk]
    have HDO := hide (hdo S.keep 0 (S.wr + 1) w1 hk hA.2.1.2 h3' hr)
    have HR := hide hr
    clear h h2 h3 hr hdo hps hA h1 h3' hw1
    obtain ⟨kp, hkp⟩ : ∃ kp, S.keep = kp := ⟨_, rfl⟩
    rw [hkp] at c6 hk HDO ⊢
    clear hkp
    go_enter Try.func41, Try.ntmps41
    go_wp2_with (go_at_call 59; refine HDU.out.mono ?_; rintro e w' ⟨rfl, rfl⟩)
    refine HDO.out.mono ?_
    rintro e w2 ⟨rfl, hR⟩
    have HR2 := hide hR
    clear hR
    obtain ⟨S2, e1, e2, e3, e4⟩ := HR2.out
    have HF2 := hide (HF.out w2 S2 _ e1 e2 e3 (HR.out.trans e4))
    clear e1 e2 e3 e4
    go_wp2_with (go_at_call 60; refine HF2.out.mono ?_; rintro e w3 ⟨rfl, hR⟩; have HR3 := hide hR; clear hR)
    go_ret
    exact ⟨rfl, HR3.out⟩
  · rw [if_neg hk]
    have HF2 := hide (HF.out w1 { S with ain := 0, wr := S.wr + 1 } S.ps.con rfl rfl h3' hr)
    clear h h2 h3 hr hdo hps hA h1 h3' hw1
    obtain ⟨kp, hkp⟩ : ∃ kp, S.keep = kp := ⟨_, rfl⟩
    rw [hkp] at c6 hk
    clear hkp
    go_enter Try.func41, Try.ntmps41
    go_wp2_with (first | (go_at_call 59; refine HDU.out.mono ?_; rintro e w' ⟨rfl, rfl⟩) | (go_at_call 60; refine HF2.out.mono ?_; rintro e w3 ⟨rfl, hR⟩; have HR3 := hide hR; clear hR))
    go_ret
    exact ⟨rfl, HR3.out⟩

theorem write_any (h : Dk B w lk S) (hA : S.ps.arms) (hwr : S.wr ≤ 1000000000) (hen : ∀ args w, (callFunc k args).run Try.prog w = .ok (.enter k args) w) (hdo : Does B w lk S k cap f) :
    Calls Try.prog 41 #[.pointer (some ⟨S.d, 0, none⟩), .func (.func k) #[] cap] w fun e w' => e = .returned (.int .i64 S.ps.code) ∧ ∃ S' : DS, S'.d = S.d ∧ S'.ps = S.ps.wrote f ∧ Dk B w' lk S' ∧ Fr w (Fp S) w' (Fp S') := by
  by_cases h1 : S.ain = 1
  · rw [show S.ps.code = 104 from if_pos h1]; exact write_torn h hA h1 hwr hen hdo
  · rw [show S.ps.code = 0 from if_neg h1]; exact write_more h hA h1 hwr hen hdo
end

end Go.Proofs.Ytiblnkiecpcdpaa

/- The law's lost. -/
import Derived.Test.YtlandfghodfjdaaGreatJ15A
import Derived.Test.YtlandfghodfjdaaGreatJ12Z
import Derived.Test.YtlandfghodfjdaaGreatJ15D
namespace Go.Proofs.YtlandfghodfjdaaGreat
open Go.RowKit
set_option linter.unusedVariables false
set_option linter.unusedSimpArgs false

theorem max_take (n su : Nat) (lose : Int) (h : su ≤ n) : (max su (n - lose.toNat) : Nat) = n - (if lose < 0 then (0 : Int) else if lose > (n : Int) - (su : Int) then (n : Int) - (su : Int) else lose).toNat := by
  split
  · omega
  · split <;> omega

set_option maxRecDepth 100000 in
set_option maxHeartbeats 2000000 in
theorem lost_any (pa pb : Option Addr) (na ca nb cb : Nat) (bs : List Nat) (su : Nat) (lose : Int) (w : World) (hc : Cy w pa na ca bs) (hsu : su ≤ na) (hn : na ≤ 1000000000) (hl : -9223372036854775808 ≤ lose ∧ lose ≤ 9223372036854775807) (hb : IsBy w (.slice pb nb cb) (bs.take (max su (na - lose.toNat)))) :
    Calls Tryz.prog 47 #[.slice pa na ca, .slice pb nb cb, .int .i64 (su : Int), .int .i64 lose] w fun e w' => e = .returned (.bool true) ∧ ∃ N, w' = w.drewN N := by
  obtain ⟨t, ht⟩ : ∃ t : Nat, max su (na - lose.toNat) = t := ⟨_, rfl⟩
  have htn : t ≤ na := by omega
  rw [ht] at hb
  obtain ⟨pL, hsL, hcL, _⟩ := cy_to hc t htn hn
  have hsL' : ∀ w', (Instr.sliceAt 33 (.slice pa na ca) none (some (.int .i64 (t : Int))) none).run Tryz.prog w' = .ok (.slice pL t ca) w' := fun w' => by rw [run_sliceAt_slice (P := Tryz.prog) (t := 33) (h := Tryz.underlying33)]; exact hsL w'
  have hlen : (bs.take t).length ≤ 140737488355328 := by rw [List.length_take]; have := hc.2.1; omega
  have HE := hide (eq_same (.slice pb nb cb) (.slice pL t ca) (bs.take t) w hb hcL.1 hlen)
  clear hb hcL hsL hlen hc
  by_cases h0 : lose < 0
  · have e : (na : Int) - 0 = (t : Int) := by omega
    have g1 : ¬ (na : Int) - (su : Int) < 0 := by omega
    have et : t = na := by omega
    subst et
    clear ht e
    go_enter Tryz.func47, Tryz.ntmps47
    go_wp2_with (first | (simp only [hsL']) | (go_at_call 38; refine HE.out.mono ?_; rintro e w2 ⟨rfl, N, hN⟩; have HN := hide hN; clear hN))
    go_ret
    exact ⟨rfl, N, HN.out⟩
  · by_cases h1 : (na : Int) - (su : Int) < lose
    · have et : t = su := by omega
      subst et
      have e : (na : Int) - ((na : Int) - (t : Int)) = (t : Int) := by omega
      clear ht
      go_enter Tryz.func47, Tryz.ntmps47
      go_wp2_with (first | (simp only [e]) | (simp only [hsL']) | (go_at_call 38; refine HE.out.mono ?_; rintro e w2 ⟨rfl, N, hN⟩; have HN := hide hN; clear hN))
      go_ret
      exact ⟨rfl, N, HN.out⟩
    · obtain ⟨l, rfl⟩ : ∃ l : Nat, lose = (l : Int) := ⟨lose.toNat, by omega⟩
      have e : (na : Int) - (l : Int) = (t : Int) := by omega
      clear ht
      go_enter Tryz.func47, Tryz.ntmps47
      go_wp2_with (first | (simp only [e]) | (simp only [hsL']) | (go_at_call 38; refine HE.out.mono ?_; rintro e w2 ⟨rfl, N, hN⟩; have HN := hide hN; clear hN))
      go_ret
      exact ⟨rfl, N, HN.out⟩

end Go.Proofs.YtlandfghodfjdaaGreat

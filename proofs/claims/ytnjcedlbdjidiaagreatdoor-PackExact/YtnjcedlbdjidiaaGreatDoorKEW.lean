/- The Book's lists of uint64s grow. -/
import Derived.Test.YtnjcedlbdjidiaaGreatDoorKCS
import Derived.Test.YtnjcedlbdjidiaaGreatDoorKN
import Derived.Test.YtnjcedlbdjidiaaGreatDoorKCB
import Derived.Deep.AppendLies
/- The Book's words and smalls hold what they held. -/
namespace Go.Proofs.YtnjcedlbdjidiaaGreatDoor
open Go.RowKit
open M
set_option linter.unusedVariables false
set_option linter.unusedSimpArgs false

set_option maxRecDepth 100000 in
set_option maxHeartbeats 8000000 in
theorem keptWS_any (NB base : Nat) (rbW roW : Option Nat) (EW : List Ent) (AW : Nat) (rbS roS : Option Nat) (ES : List Ent) (AS : Nat) (w : World) (hW : KSt kW w NB base rbW roW EW AW) (hEW : EW.length ≤ 10000000) (hS : KSt kS w NB base rbS roS ES AS) (hES : ES.length ≤ 10000000) (c6 : w.cell? ⟨NB, 6, none⟩ = some (.slice none 0 0)) (c9 : w.cell? ⟨NB, 9, none⟩ = some (.slice none 0 0)) :
    Calls Tryz.prog 57 #[.pointer (some ⟨NB, 0, none⟩)] w fun e w' => e = .returned (.bool true) ∧ ∃ m, w' = w.drewN m := by
  obtain ⟨pbW, capbW, poW, capoW, cbW, coW, heW⟩ := hW.read
  have HEW := hideB heW
  have cbW : w.cell? ⟨NB, 12, none⟩ = some (.slice pbW EW.length capbW) := cbW
  have coW : w.cell? ⟨NB, 13, none⟩ = some (.slice poW EW.length capoW) := coW
  clear hW heW
  generalize EW.length = nEW at *
  have HCW : Hid (w.cell? ⟨NB, 12, none⟩ = some (.slice pbW nEW capbW) ∧ w.cell? ⟨NB, 13, none⟩ = some (.slice poW nEW capoW)) := ⟨cbW, coW⟩
  obtain ⟨pbS, capbS, poS, capoS, cbS, coS, heS⟩ := hS.read
  have HES := hideB heS
  have cbS : w.cell? ⟨NB, 15, none⟩ = some (.slice pbS ES.length capbS) := cbS
  have coS : w.cell? ⟨NB, 16, none⟩ = some (.slice poS ES.length capoS) := coS
  clear hS heS
  generalize ES.length = nES at *
  have HCS : Hid (w.cell? ⟨NB, 15, none⟩ = some (.slice pbS nES capbS) ∧ w.cell? ⟨NB, 16, none⟩ = some (.slice poS nES capoS)) := ⟨cbS, coS⟩
  have HC6 := hideB c6
  have HC9 := hideB c9
  have Hm : Hid (∃ m, w = w.drewN m) := ⟨0, rfl⟩
  clear cbW coW cbS coS c6 c9
  go_enter Tryz.func57, Tryz.ntmps57
  go_wp2_with fail
  go_loopw [3] (fun t wr => t = .int .i64 0 ∧ Hid (∃ m, wr = w.drewN m)) (fun _ _ => 0)
  case atStart => exact ⟨rfl, Hm⟩
  case round =>
    clear Hm
    obtain ⟨rfl, Hm⟩ := hrel
    have c6 : wr.cell? ⟨NB, 6, none⟩ = some (.slice none 0 0) := by obtain ⟨m, rfl⟩ := Hm.out; exact HC6.out
    go_wp2_with fail
    clear c6
    go_loopw [5] (fun t wr => t = .int .i64 0 ∧ Hid (∃ m, wr = w.drewN m)) (fun _ _ => 0)
    case atStart => exact ⟨rfl, Hm⟩
    case round =>
      clear Hm
      obtain ⟨rfl, Hm⟩ := hrel
      have c9 : wr.cell? ⟨NB, 9, none⟩ = some (.slice none 0 0) := by obtain ⟨m, rfl⟩ := Hm.out; exact HC9.out
      go_wp2_with fail
      clear c9
      go_loopw [7] (fun t wr => ∃ k : Nat, k ≤ nEW ∧ t = .int .i64 k ∧ Hid (∃ m, wr = w.drewN m)) (fun t _ => nEW - (intOf t).toNat)
      case atStart => exact ⟨0, by omega, rfl, Hm⟩
      case round =>
        clear Hm
        obtain ⟨k, hk, rfl, Hm⟩ := hrel
        have hcell : ∀ a, wr.cell? a = w.cell? a := fun a => by obtain ⟨m, rfl⟩ := Hm.out; rfl
        have cb' := (hcell ⟨NB, 12, none⟩).trans HCW.out.1
        have co' := (hcell ⟨NB, 13, none⟩).trans HCW.out.2
        by_cases hlt : k < nEW
        · obtain ⟨gb, go, p, n, cp, m, rfl, rfl, d1, d2, hn, hm, hx⟩ := HEW.out k hlt
          have D1 := hideB d1
          have D2 := hideB d2
          have HX := hideB hx
          have d1 := (hcell ⟨gb, k, none⟩).trans D1.out
          clear d2 hx hcell HEW
          go_wp2_with fail
          have Hm0 : Hid (∃ m, wr = w.drewN m) := Hm
          clear Hm cb' co' d1
          go_loopw [8] (fun t4 wr => ∃ j : Nat, j ≤ n ∧ t4 = .int .i64 j ∧ Hid (∃ m, wr = w.drewN m)) (fun t4 _ => n - (intOf t4).toNat)
          case atStart => exact ⟨0, by omega, rfl, Hm0⟩
          case round =>
            clear Hm0
            obtain ⟨j, hj, rfl, Hm⟩ := hrel
            have hcell : ∀ a, wr.cell? a = w.cell? a := fun a => by obtain ⟨m, rfl⟩ := Hm.out; rfl
            have cb' := (hcell ⟨NB, 12, none⟩).trans HCW.out.1
            have co' := (hcell ⟨NB, 13, none⟩).trans HCW.out.2
            have d1 := (hcell ⟨gb, k, none⟩).trans D1.out
            have d2 := (hcell ⟨go, k, none⟩).trans D2.out
            by_cases hjn : j < n
            · obtain ⟨g, rfl, hg⟩ := HX.out (by omega)
              obtain ⟨yy, hyy⟩ : ∃ yy : Int, ((m * 1048576 : Nat) : Int) = yy := ⟨_, rfl⟩
              have d3 : wr.cell? ⟨g, j, none⟩ = some (.int .u64 yy) := by rw [(hcell ⟨g, j, none⟩).trans (hg j hjn), ← hyy]; rfl
              have HA : Hid (∀ w, Calls Tryz.prog 54 #[.int .i64 m] w fun e w' => e = .returned (.int .u64 yy) ∧ w' = w) := fun w => by rw [← hyy]; exact markW_any m w hm
              clear hg hcell hyy
              have hjI : (j : Int) < (n : Int) := by omega
              have hkI : (k : Int) < (nEW : Int) := by omega
              go_wp2_with fail
              go_quiet ((go_at_call 54; exact Calls.quiet_of_same (HA.out _)))
              go_wp2_with fail
              go_roundw
              case rel =>
                refine ⟨j + 1, by omega, by go_num, ?_⟩
                obtain ⟨m, rfl⟩ := Hm.out
                exact ⟨m + nq, World.drewN_drewN _ _ _⟩
              case measure => simp [intOf]; omega
            · clear hcell
              go_wp2_with fail
              go_roundw
              case rel => exact ⟨k + 1, by omega, by go_num, Hm⟩
              case measure => simp [intOf]; omega
        · clear hcell HEW
          go_wp2_with fail
          clear cb' co'
          go_loopw [9] (fun t wr => ∃ k : Nat, k ≤ nES ∧ t = .int .i64 k ∧ Hid (∃ m, wr = w.drewN m)) (fun t _ => nES - (intOf t).toNat)
          case atStart => exact ⟨0, by omega, rfl, Hm⟩
          case round =>
            clear Hm
            obtain ⟨k, hk, rfl, Hm⟩ := hrel
            have hcell : ∀ a, wr.cell? a = w.cell? a := fun a => by obtain ⟨m, rfl⟩ := Hm.out; rfl
            have cb' := (hcell ⟨NB, 15, none⟩).trans HCS.out.1
            have co' := (hcell ⟨NB, 16, none⟩).trans HCS.out.2
            by_cases hlt : k < nES
            · obtain ⟨gb, go, p, n, cp, m, rfl, rfl, d1, d2, hn, hm, hx⟩ := HES.out k hlt
              have D1 := hideB d1
              have D2 := hideB d2
              have HX := hideB hx
              have d1 := (hcell ⟨gb, k, none⟩).trans D1.out
              clear d2 hx hcell HES
              go_wp2_with fail
              have Hm0 : Hid (∃ m, wr = w.drewN m) := Hm
              clear Hm cb' co' d1
              go_loopw [10] (fun t4 wr => ∃ j : Nat, j ≤ n ∧ t4 = .int .i64 j ∧ Hid (∃ m, wr = w.drewN m)) (fun t4 _ => n - (intOf t4).toNat)
              case atStart => exact ⟨0, by omega, rfl, Hm0⟩
              case round =>
                clear Hm0
                obtain ⟨j, hj, rfl, Hm⟩ := hrel
                have hcell : ∀ a, wr.cell? a = w.cell? a := fun a => by obtain ⟨m, rfl⟩ := Hm.out; rfl
                have cb' := (hcell ⟨NB, 15, none⟩).trans HCS.out.1
                have co' := (hcell ⟨NB, 16, none⟩).trans HCS.out.2
                have d1 := (hcell ⟨gb, k, none⟩).trans D1.out
                have d2 := (hcell ⟨go, k, none⟩).trans D2.out
                by_cases hjn : j < n
                · obtain ⟨g, rfl, hg⟩ := HX.out (by omega)
                  obtain ⟨yy, hyy⟩ : ∃ yy : Int, ((m * 256 : Nat) : Int) = yy := ⟨_, rfl⟩
                  have d3 : wr.cell? ⟨g, j, none⟩ = some (.int .u32 yy) := by rw [(hcell ⟨g, j, none⟩).trans (hg j hjn), ← hyy]; rfl
                  have HA : Hid (∀ w, Calls Tryz.prog 55 #[.int .i64 m] w fun e w' => e = .returned (.int .u32 yy) ∧ w' = w) := fun w => by rw [← hyy]; exact markS_any m w hm
                  clear hg hcell hyy
                  have hjI : (j : Int) < (n : Int) := by omega
                  have hkI : (k : Int) < (nES : Int) := by omega
                  go_wp2_with fail
                  go_quiet ((go_at_call 55; exact Calls.quiet_of_same (HA.out _)))
                  go_wp2_with fail
                  go_roundw
                  case rel =>
                    refine ⟨j + 1, by omega, by go_num, ?_⟩
                    obtain ⟨m, rfl⟩ := Hm.out
                    exact ⟨m + nq, World.drewN_drewN _ _ _⟩
                  case measure => simp [intOf]; omega
                · clear hcell
                  go_wp2_with fail
                  go_roundw
                  case rel => exact ⟨k + 1, by omega, by go_num, Hm⟩
                  case measure => simp [intOf]; omega
            · clear hcell HES
              go_wp2_with fail
              clear cb' co'
              go_ret
              exact ⟨rfl, Hm.out⟩


end Go.Proofs.YtnjcedlbdjidiaaGreatDoor

/- The Book's lists of uint8s grow. -/
namespace Go.Proofs.YtnjcedlbdjidiaaGreatDoor
open Go.RowKit
open M
set_option linter.unusedVariables false
set_option linter.unusedSimpArgs false

theorem infoEB : ∃ i, Tryz.prog.info? 5 = some i ∧ i.zero = some (.int .u8 0) ∧ i.size = 1 ∧ i.bytes = 1 := by
  have hz : (Tryz.prog.info? 5).bind (·.zero) = some (.int .u8 0) := by kernel_rfl
  have hs : (Tryz.prog.info? 5).map (·.size) = some 1 := by kernel_rfl
  have hb : (Tryz.prog.info? 5).map (·.bytes) = some 1 := by kernel_rfl
  cases hi : Tryz.prog.info? 5 with
  | none => simp [hi] at hs
  | some i =>
    simp only [hi, Option.bind_some, Option.map_some, Option.some.injEq] at hz hs hb
    exact ⟨i, rfl, hz, hs, hb⟩

/-- append of one where there is room. -/
theorem roomB {w : World} {ops : Array Oper} {rest : List Oper} {o : Oper} {a : Act} {Q : Exit → Act → World → Prop} (hg : o.guard = none) (s x : Operand) (hop : o.op = Op.call { callee := Callee.builtin Builtin.append, args := #[s, x], argTypes := #[59, 59] })
    {base g L cap : Nat} {xs : List Value} (y : Int) (hs : a.eval s = .slice (some ⟨g, 0, none⟩) L cap) (hrow : w.ownsRow base 5 1 (.slice (some ⟨g, 0, none⟩) L cap) L xs) (ad : Addr) (hx : a.eval x = .slice (some ad) 1 1) (hc : ∀ j u, ([.int .u8 y] : List Value)[j]? = some u → w.cell? (ad.add j) = some u) (hroom : L + 1 ≤ cap) (hL : L ≤ 1000000)
    (h : Hid (∀ w', Hid (w' = w.setCell ⟨g, L, none⟩ (.int .u8 y)) → wpList Tryz.prog ops Q rest (a.put o.dst (.slice (some ⟨g, 0, none⟩) (L + 1) cap)) w')) : wpList Tryz.prog ops Q (o :: rest) a w := by
  obtain ⟨i5, h1, h2, h3, h4⟩ := infoEB
  refine wpList_append_arg w hg s x 59 hop 5 i5 (.int .u8 0) 1 1 Tryz.underlying59 h1 h2 h3 h4 rfl (by decide) g 0 L cap xs hs (by simpa using hrow.1) ?_ ad 1 1 [.int .u8 y] hx rfl hc (by intro u hu; simp at hu; subst hu; rfl) ?_ (by unfold maxLen; omega) (by omega) (fun _ => ?_) (fun h9 => by omega)
  · intro j u hj
    obtain ⟨_, _, _, _, _, h5⟩ := row_form hrow
    rw [Nat.zero_add]; exact (h5 g rfl).2.2.2 j u hj
  · intro _ j hj
    have hj0 : j = 0 := by simp at hj; omega
    subst hj0
    simpa using (row_next hrow (.int .u8 0) hroom).2
  · exact h.out _ (by rw [Nat.zero_add, Nat.mul_one]; rfl)

/-- append of one where there is none. -/
theorem fullB {w : World} {ops : Array Oper} {rest : List Oper} {o : Oper} {a : Act} {Q : Exit → Act → World → Prop} (hg : o.guard = none) (s x : Operand) (hop : o.op = Op.call { callee := Callee.builtin Builtin.append, args := #[s, x], argTypes := #[59, 59] })
    {base L cap : Nat} {p : Option Addr} {xs : List Value} (y : Int) (hs : a.eval s = .slice p L cap) (hrow : w.ownsRow base 5 1 (.slice p L cap) L xs) (ad : Addr) (hx : a.eval x = .slice (some ad) 1 1) (hc : ∀ j u, ([.int .u8 y] : List Value)[j]? = some u → w.cell? (ad.add j) = some u) (hfull : cap < L + 1) (hL : L ≤ 1000000)
    (h : Hid (∀ v' w', w'.ownsRow w.heap.size 5 1 v' (L + 1) (xs ++ [.int .u8 y]) → w.grownBy w' none → wpList Tryz.prog ops Q rest (a.put o.dst v') w')) : wpList Tryz.prog ops Q (o :: rest) a w := by
  obtain ⟨i5, h1, h2, h3, h4⟩ := infoEB
  refine wpList_append_grows w hg s x 59 hop 5 i5 (.int .u8 0) 1 1 Tryz.underlying59 h1 h2 h3 h4 rfl (by decide) p L cap xs hs ?_ (by simpa using hrow.1) ?_ ad 1 1 [.int .u8 y] hx rfl hc (by intro u hu; simp at hu; subst hu; rfl) hfull (by unfold maxLen; omega) (by omega) h.out
  · intro h0
    obtain ⟨_, _, hv, h5, h6, _⟩ := row_form hrow
    simp only [Value.slice.injEq] at hv
    have := h6 (hv.1 ▸ h0)
    omega
  · intro bb hbb j u hj
    obtain ⟨g, rfl⟩ : ∃ g, bb = ⟨g, 0, none⟩ := by
      rcases hrow.2 with ⟨h8, _⟩ | ⟨g, c9, cur, h8, _⟩
      · simp only [Value.slice.injEq] at h8; rw [h8.1] at hbb; simp at hbb
      · simp only [Value.slice.injEq] at h8; rw [h8.1] at hbb; simp only [Option.some.injEq] at hbb; exact ⟨g, hbb.symm⟩
    subst hbb
    obtain ⟨_, _, _, _, _, h5⟩ := row_form hrow
    rw [Addr.add_mid, Nat.zero_add]
    exact (h5 g rfl).2.2.2 j u hj

/-- append of one slice to a row of them. -/
theorem listsB {w : World} {ops : Array Oper} {rest : List Oper} {o : Oper} {a : Act} {Q : Exit → Act → World → Prop} (hg : o.guard = none) (s x : Operand) (hop : o.op = Op.call { callee := Callee.builtin Builtin.append, args := #[s, x], argTypes := #[24, 24] })
    {base n : Nat} {v : Value} {xs : List Value} (y : Value) (hy : y.oneCell' = true) (hs : a.eval s = v) (hrow : w.ownsRow base 59 1 v n xs) (ad : Addr) (hx : a.eval x = .slice (some ad) 1 1) (hc : ∀ j u, ([y] : List Value)[j]? = some u → w.cell? (ad.add j) = some u) (hn : n ≤ 100000000) (hb : base ≤ w.heap.size)
    (h : Hid (∀ g cap w', w'.ownsRow base 59 1 (.slice (some ⟨g, 0, none⟩) (n + 1) cap) (n + 1) (xs ++ [y]) → w.grownBy w' v.ownBlock → (v.ownBlock = some g ∨ g = w.heap.size) → wpList Tryz.prog ops Q rest (a.put o.dst (.slice (some ⟨g, 0, none⟩) (n + 1) cap)) w')) : wpList Tryz.prog ops Q (o :: rest) a w := by
  obtain ⟨i, h1, h2, h3, h4⟩ := infoB
  exact wpList_append_lies w hg s x 24 hop base 59 i (.slice none 0 0) 1 24 Tryz.underlying24 h1 h2 h3 h4 rfl (by decide) v n xs hs hrow ad 1 1 [y] hx rfl hc (by intro u hu; simp at hu; subst hu; exact hy) (by decide) (by unfold maxLen; omega) (by omega) hb _ rfl (fun g cap w' k1 k2 k3 k4 => h.out g cap w' k1 k2 k3)

/-- append of one number to a row of them. -/
theorem numsB {w : World} {ops : Array Oper} {rest : List Oper} {o : Oper} {a : Act} {Q : Exit → Act → World → Prop} (hg : o.guard = none) (s x : Operand) (hop : o.op = Op.call { callee := Callee.builtin Builtin.append, args := #[s, x], argTypes := #[25, 25] })
    {base n : Nat} {v : Value} {xs : List Value} (y : Value) (hy : y.oneCell' = true) (hs : a.eval s = v) (hrow : w.ownsRow base 3 1 v n xs) (ad : Addr) (hx : a.eval x = .slice (some ad) 1 1) (hc : ∀ j u, ([y] : List Value)[j]? = some u → w.cell? (ad.add j) = some u) (hn : n ≤ 100000000) (hb : base ≤ w.heap.size)
    (h : Hid (∀ g cap w', w'.ownsRow base 3 1 (.slice (some ⟨g, 0, none⟩) (n + 1) cap) (n + 1) (xs ++ [y]) → w.grownBy w' v.ownBlock → (v.ownBlock = some g ∨ g = w.heap.size) → wpList Tryz.prog ops Q rest (a.put o.dst (.slice (some ⟨g, 0, none⟩) (n + 1) cap)) w')) : wpList Tryz.prog ops Q (o :: rest) a w := by
  obtain ⟨i, h1, h2, h3, h4⟩ := infoI
  exact wpList_append_lies w hg s x 25 hop base 3 i (.int .i64 0) 1 8 Tryz.underlying25 h1 h2 h3 h4 rfl (by decide) v n xs hs hrow ad 1 1 [y] hx rfl hc (by intro u hu; simp at hu; subst hu; exact hy) (by decide) (by unfold maxLen; omega) (by omega) hb _ rfl (fun g cap w' k1 k2 k3 k4 => h.out g cap w' k1 k2 k3)

set_option maxRecDepth 100000 in
set_option maxHeartbeats 16000000 in
theorem growB_any (NB base : Nat) (rb ro : Option Nat) (E : List Ent) (A : Nat) (w : World) (h : KSt kB w NB base rb ro E A) (hE : E.length ≤ 200000) (hbase : base ≤ w.heap.size) (hfr : ∀ i e, A ≤ i → E[i]? = some e → e.n ≤ 50000 ∧ ∃ p, e.v = .slice p e.n e.n) :
    Calls Tryz.prog 63 #[.pointer (some ⟨NB, 0, none⟩)] w fun q w' => q = .returned (.tuple #[]) ∧ GrownPost kB w NB base rb ro E A 96 w' := by
  have hA := h.le.1
  have c2 : w.cell? ⟨NB, 2, none⟩ = some (.int .i64 (A : Int)) := h.at_
  obtain ⟨vb, b1, b2, _⟩ := h.rows
  obtain ⟨pb, capb, hvb, -⟩ := row_form b2
  subst hvb
  have b1 : w.cell? ⟨NB, 0, none⟩ = some (.slice pb E.length capb) := b1
  have HS0 : Hid (GrowSt kB w NB base rb ro E A (96 * (A - A)) w) := ⟨rb, ro, [], GC.start h⟩
  have Hfr : Hid (∀ i e, A ≤ i → E[i]? = some e → e.n ≤ 50000 ∧ ∃ p, e.v = .slice p e.n e.n) := hfr
  obtain ⟨nE, hnE⟩ : ∃ nE, nE = E.length := ⟨_, rfl⟩
  have HnE : Hid (nE = E.length) := hnE
  rw [← hnE] at b1 hE hA
  clear h b2 hfr hnE
  go_enter Tryz.func63, Tryz.ntmps63
  go_wp2_with fail
  clear b1 c2
  go_loopw [3] (fun t3 wr => ∃ k : Nat, A ≤ k ∧ k ≤ nE ∧ t3 = .int .i64 k ∧ Hid (GrowSt kB w NB base rb ro E A (96 * (k - A)) wr)) (fun t3 _ => nE - (intOf t3).toNat)
  case atStart => exact ⟨A, by omega, by omega, rfl, HS0⟩
  case round =>
    obtain ⟨k, hkA, hk, rfl, HS⟩ := hrel
    by_cases hlt : k < nE
    · have hlt' : (k : Int) < (nE : Int) := by omega
      obtain ⟨e, he⟩ : ∃ e, E[k]? = some e := ⟨E[k]'(by have := HnE.out; omega), List.getElem?_eq_getElem _⟩
      obtain ⟨hn5, pe, hve⟩ := Hfr.out k e hkA he
      obtain ⟨rb', ro', X, G⟩ := HS.out
      have heX : (E ++ X)[k]? = some e := by rw [List.getElem?_append_left (by have := HnE.out; omega)]; exact he
      obtain ⟨hok, _, hm6⟩ := G.st.ok e (List.mem_of_getElem? heX)
      obtain ⟨vb, b1, b2, b3⟩ := G.st.rows
      obtain ⟨vo, q1, q2, q3⟩ := G.st.nums
      obtain ⟨pb, capb, hvb, -⟩ := row_form b2
      obtain ⟨po, capo, hvo, -⟩ := row_form q2
      have hlen : 0 < (E ++ X).length := by rw [List.length_append, ← HnE.out]; omega
      obtain ⟨gb, rfl, _, _, hb4⟩ := row_at b2 hvb hlen
      obtain ⟨go, rfl, _, _, hq4⟩ := row_at q2 hvo hlen
      have d1 : wr.cell? ⟨gb, k, none⟩ = some (.slice pe e.n e.n) := by rw [hb4 k e.v (by simp only [List.getElem?_map, heX, Option.map_some]), hve]
      have d2 : wr.cell? ⟨go, k, none⟩ = some (.int .i64 (e.m : Int)) := hq4 k _ (by simp only [numsV, List.getElem?_map, heX, Option.map_some])
      rw [hvb] at b1
      rw [hvo] at q1
      have b1 : wr.cell? ⟨NB, 0, none⟩ = some (.slice (some ⟨gb, 0, none⟩) (E ++ X).length capb) := b1
      have q1 : wr.cell? ⟨NB, 1, none⟩ = some (.slice (some ⟨go, 0, none⟩) (E ++ X).length capo) := q1
      have HI0 : Hid (InSt kB w NB base rb ro E A (96 * (k - A) + (1 - 1)) e.m (e.n + (1 - 1)) (.slice pe e.n e.n) wr) := ⟨rb', ro', X, G, by rw [← hve]; exact hok, .inl ⟨pe, rfl⟩⟩
      obtain ⟨nX, hnX⟩ : ∃ nX, nX = (E ++ X).length := ⟨_, rfl⟩
      have hnX2 : (k : Int) < (nX : Int) := by rw [hnX, List.length_append, ← HnE.out]; omega
      rw [← hnX] at b1 q1
      clear HS G heX hok b2 b3 q2 q3 hvb hvo hlen hb4 hq4 hve he hnX
      generalize e.n = n0 at *
      generalize e.m = m0 at *
      go_wp2_with fail
      clear b1 q1 d1 d2
      go_loopw [4, 6] (fun t4 t6 wr => ∃ i : Nat, 1 ≤ i ∧ i ≤ 97 ∧ t6 = .int .i64 i ∧ Hid (InSt kB w NB base rb ro E A (96 * (k - A) + (i - 1)) m0 (n0 + (i - 1)) t4 wr)) (fun _ t6 _ => 97 - (intOf t6).toNat)
      case atStart => exact ⟨1, by omega, by omega, rfl, HI0⟩
      case round =>
        obtain ⟨i, hi1, hi97, rfl, HI⟩ := hrel
        by_cases hi : i ≤ 96
        · have hi' : (i : Int) ≤ 96 := by omega
          obtain ⟨L, hL⟩ : ∃ L, L = n0 + (i - 1) := ⟨_, rfl⟩
          obtain ⟨cc, hcc⟩ : ∃ cc, cc = 96 * (k - A) + (i - 1) := ⟨_, rfl⟩
          have HI2 : Hid (InSt kB w NB base rb ro E A cc m0 L u4 wr) := by rw [hL, hcc]; exact HI.out
          have hLb : L ≤ 60000 := by omega
          have Hcb : Hid (cc ≤ 19300000) := by show _ ≤ _; omega
          have Hnx : Hid (n0 + (i + 1 - 1) = L + 1 ∧ 96 * (k - A) + (i + 1 - 1) = cc + 1) := ⟨by omega, by omega⟩
          obtain ⟨p2, cap2, hv2, hle2, hp2, _⟩ := row_form (show wr.ownsRow base 5 1 _ L _ from (by obtain ⟨_, _, _, _, h7, _⟩ := HI2.out; exact h7))
          obtain ⟨yy, hyy⟩ : ∃ yy : Int, ((mk m0 L : Nat) : Int) = yy := ⟨_, rfl⟩
          have HAt : Hid (Calls Tryz.prog 43 #[.int .i64 m0, .int .i64 L] wr fun e w' => e = .returned (.int .u8 yy) ∧ w' = wr) := by rw [← hyy]; exact at_any m0 L wr hm6 (by omega)
          have Hyy : Hid (kB.mv m0 L = .int .u8 yy) := by rw [← hyy]; rfl
          subst hv2
          clear HI hL hcc hyy
          by_cases hroom : L + 1 ≤ cap2
          · obtain ⟨g, rfl⟩ : ∃ g, p2 = some ⟨g, 0, none⟩ := by
              obtain ⟨_, _, _, _, h7, _⟩ := HI2.out
              rcases h7.2 with ⟨h8, _⟩ | ⟨g, c9, cur, h8, _⟩
              · simp only [Value.slice.injEq] at h8; omega
              · simp only [Value.slice.injEq] at h8; exact ⟨g, h8.1⟩
            have HR : Hid (wr.ownsRow base 5 1 (.slice (some ⟨g, 0, none⟩) L cap2) L (kB.marks m0 L)) := (by obtain ⟨_, _, _, _, h7, _⟩ := HI2.out; exact h7)
            have HN : Hid (∀ o, InR kB w NB base rb ro E A cc m0 (L + 1) (.slice (some ⟨g, 0, none⟩) (L + 1) cap2) ((wr.alloc o).setCell ⟨g, L, none⟩ (.int .u8 yy))) := fun o => by rw [← Hyy.out]; exact HI2.out.room (by decide) (by decide) hroom
            clear HI2
            go_wp2_with fail
            refine HAt.out.mono ?_
            rintro ee w1 ⟨rfl, rfl⟩
            go_wp2_with (at_builtin; refine roomB rfl _ _ rfl yy rfl (HR.out.alloc _) ⟨w1.heap.size, 0, none⟩ rfl ?r3 ?r5 ?r6 ?r8)
            case r3 => intro j u hj; exact cell_newB w1 _ 5 j u hj
            case r5 => omega
            case r6 => omega
            case r8 =>
              show ∀ w', _
              intro wC hwC
              have HQ : Hid (InR kB w NB base rb ro E A cc m0 (L + 1) (.slice (some ⟨g, 0, none⟩) (L + 1) cap2) wC) := by rw [hwC.out]; exact HN.out _
              clear hwC HN HR
              by_cases hi4 : i < 4
              · have hi4' : (i : Int) < 4 := by omega
                obtain ⟨rb', ro', X, G, hv5, hu5⟩ := HQ.out
                obtain ⟨vb, b1, b2, b3⟩ := G.st.rows
                obtain ⟨vo, q1, q2, q3⟩ := G.st.nums
                have b1 : wC.cell? ⟨NB, 0, none⟩ = some vb := b1
                have q1 : wC.cell? ⟨NB, 1, none⟩ = some vo := q1
                have f0 : wC.frozen? ⟨NB, 0, none⟩ = false := G.st.fz 0 (by omega)
                have f1 : wC.frozen? ⟨NB, 1, none⟩ = false := G.st.fz 1 (by omega)
                have hbC : base ≤ wC.heap.size := Nat.le_trans hbase G.chg.size
                have nrb : rb' ≠ some NB := fun hh => by have := (row_ge b2 (b3.trans hh)).1; have := G.st.le.2.1; omega
                have nro : ro' ≠ some NB := fun hh => by have := (row_ge q2 (q3.trans hh)).1; have := G.st.le.2.1; omega
                have Hn : Hid (rb' ≠ some NB ∧ ro' ≠ some NB ∧ vb.ownBlock = rb' ∧ vo.ownBlock = ro' ∧ NB < base) := ⟨nrb, nro, b3, q3, G.st.le.2.1⟩
                have HR1 : Hid (wC.ownsRow base 59 1 vb (E ++ X).length ((E ++ X).map Ent.v)) := b2
                have HR2 : Hid (wC.ownsRow base 3 1 vo (E ++ X).length (numsV (E ++ X))) := q2
                have hXb : (E ++ X).length ≤ 20000000 := by rw [List.length_append, ← HnE.out]; have := Hcb.out; have := G.len; omega
                have HA5 : Hid (∀ {wD wE wF wG : World} {vb' vo' : Value} {c1 c2 : Obj}, wD.ownsRow base 59 1 vb' ((E ++ X).length + 1) ((E ++ X).map Ent.v ++ [(.slice (some ⟨g, 0, none⟩) (L + 1) cap2)]) → (wC.alloc c1).grownBy wD rb' → (rb' = vb'.ownBlock ∨ vb'.ownBlock = some (wC.heap.size + 1)) → wE = wD.setCell ⟨NB, 0, none⟩ vb' → wF.ownsRow base 3 1 vo' ((E ++ X).length + 1) (numsV (E ++ X) ++ [.int .i64 (m0 : Int)]) → (wE.alloc c2).grownBy wF ro' → (ro' = vo'.ownBlock ∨ vo'.ownBlock = some (wE.heap.size + 1)) → wG = wF.setCell ⟨NB, 1, none⟩ vo' → InSt kB w NB base rb ro E A (cc + 1) m0 (L + 1) (.slice (some ⟨g, 0, none⟩) (L + 1) cap2) wG) :=
                  fun o1 g1 a1 e1 o2 g2 a2 e2 => InSt.add (by decide) (by decide) (by decide) G hv5 hu5 (by omega) hm6 o1 g1 a1 e1 o2 g2 a2 e2
                obtain ⟨nX, hnX⟩ : ∃ nX, nX = (E ++ X).length := ⟨_, rfl⟩
                clear HQ G hv5 hu5 b2 b3 q2 q3 nrb nro
                rw [← hnX] at HR1 HR2 HA5 hXb
                clear hnX
                generalize (E ++ X).map Ent.v = ev at *
                generalize numsV (E ++ X) = em at *
                have HbC1 : Hid (base ≤ (wC.alloc (.cells #[(.slice (some ⟨g, 0, none⟩) (L + 1) cap2)] 59)).heap.size) := by show _ ≤ _; simp; omega
                have HXb : Hid (nX ≤ 100000000) := by show _ ≤ _; omega
                go_wp2_with (at_builtin; go_loud (refine listsB rfl _ _ rfl (.slice (some ⟨g, 0, none⟩) (L + 1) cap2) rfl rfl (HR1.out.alloc _) ⟨wC.heap.size, 0, none⟩ rfl (fun j u hj => cell_newB wC _ 59 j u hj) HXb.out HbC1.out ?d6))
                case d6 =>
                  show ∀ g cap w', _
                  intro g1 cap1 wD o1 gr1 at1
                  rw [Hn.out.2.2.1] at gr1 at1
                  have C1 : Chg (fun k => rb' = some k) wC wD := (Chg.below ((Below.refl _ _).alloc (Nat.le_refl _) _)).trans' (Chg.grown gr1 fun g hg => hg)
                  have c0D := cell_chg b1 C1 Hn.out.1
                  have c1D := cell_chg q1 C1 Hn.out.1
                  have fD : ∀ j, wD.frozen? ⟨NB, j, none⟩ = wC.frozen? ⟨NB, j, none⟩ := fun j => World.frozen?_of_block (w := wC) (a := ⟨NB, j, none⟩) (C1.block NB (block_lt_of_cell b1) Hn.out.1)
                  have f0D := (fD 0).trans f0
                  have f1D := (fD 1).trans f1
                  have q2D : wD.ownsRow base 3 1 vo nX em := ownsRow_chg HR2.out C1 (fun g hg hh => rows_ne HR2.out HR1.out (by decide) hg (Hn.out.2.2.1.trans hh))
                  have HR2E : Hid ((wD.setCell ⟨NB, 0, none⟩ (.slice (some ⟨g1, 0, none⟩) (nX + 1) cap1)).ownsRow base 3 1 vo nX em) := ownsRow_setOther q2D _ _ _ Hn.out.2.2.2.2
                  have zE : (wD.setCell ⟨NB, 0, none⟩ (.slice (some ⟨g1, 0, none⟩) (nX + 1) cap1)).heap.size = wD.heap.size := by simp [World.setCell]
                  have hbE : base ≤ wD.heap.size := Nat.le_trans hbC C1.size
                  have H1 : Hid (wD.ownsRow base 59 1 (.slice (some ⟨g1, 0, none⟩) (nX + 1) cap1) (nX + 1) (ev ++ [(.slice (some ⟨g, 0, none⟩) (L + 1) cap2)]) ∧ (wC.alloc (.cells #[(.slice (some ⟨g, 0, none⟩) (L + 1) cap2)] 59)).grownBy wD rb' ∧ (rb' = (Value.slice (some ⟨g1, 0, none⟩) (nX + 1) cap1).ownBlock ∨ (Value.slice (some ⟨g1, 0, none⟩) (nX + 1) cap1).ownBlock = some (wC.heap.size + 1))) := ⟨o1, gr1, by rcases at1 with at1 | at1; exact .inl at1; right; rw [at1]; simp [Value.ownBlock]⟩
                  have c1E : (wD.setCell ⟨NB, 0, none⟩ (.slice (some ⟨g1, 0, none⟩) (nX + 1) cap1)).cell? ⟨NB, 1, none⟩ = some vo := by rw [cell_setCell_ne _ _ _ _ _ (by omega)]; exact c1D
                  have f1E : (wD.setCell ⟨NB, 0, none⟩ (.slice (some ⟨g1, 0, none⟩) (nX + 1) cap1)).frozen? ⟨NB, 1, none⟩ = false := by rw [frozen_setCell]; exact f1D
                  have HcE : Hid ((wD.setCell ⟨NB, 0, none⟩ (.slice (some ⟨g1, 0, none⟩) (nX + 1) cap1)).cell? ⟨NB, 1, none⟩ = some vo ∧ (wD.setCell ⟨NB, 0, none⟩ (.slice (some ⟨g1, 0, none⟩) (nX + 1) cap1)).frozen? ⟨NB, 1, none⟩ = false) := ⟨c1E, f1E⟩
                  clear o1 gr1 at1 C1 fD q2D HR2 c1E f1E
                  have HbE1 : Hid (base ≤ ((wD.setCell ⟨NB, 0, none⟩ (.slice (some ⟨g1, 0, none⟩) (nX + 1) cap1)).alloc (.cells #[.int .i64 (m0 : Int)] 3)).heap.size) := by show _ ≤ _; simp [zE]; omega
                  have HcN : Hid (∀ j u, ([.int .i64 (m0 : Int)] : List Value)[j]? = some u → ((wD.setCell ⟨NB, 0, none⟩ (.slice (some ⟨g1, 0, none⟩) (nX + 1) cap1)).alloc (.cells #[.int .i64 (m0 : Int)] 3)).cell? ((⟨wD.heap.size, 0, none⟩ : Addr).add j) = some u) := fun j u hj => by have h := cell_newB (wD.setCell ⟨NB, 0, none⟩ (.slice (some ⟨g1, 0, none⟩) (nX + 1) cap1)) _ 3 j u hj; rw [zE] at h; exact h
                  go_wp2_with (at_builtin; refine numsB rfl _ _ rfl (.int .i64 (m0 : Int)) rfl rfl (HR2E.out.alloc _) ⟨wD.heap.size, 0, none⟩ rfl HcN.out HXb.out HbE1.out ?e6)
                  case e6 =>
                    show ∀ g cap w', _
                    intro g2 cap3 wF o2 gr2 at2
                    rw [Hn.out.2.2.2.1] at gr2 at2
                    have C3 : Chg (fun k => ro' = some k) (wD.setCell ⟨NB, 0, none⟩ (.slice (some ⟨g1, 0, none⟩) (nX + 1) cap1)) wF := (Chg.below ((Below.refl _ _).alloc (Nat.le_refl _) _)).trans' (Chg.grown gr2 fun g hg => hg)
                    have c1F := cell_chg HcE.out.1 C3 Hn.out.2.1
                    have f1F : wF.frozen? ⟨NB, 1, none⟩ = false := (World.frozen?_of_block (w := (wD.setCell ⟨NB, 0, none⟩ (.slice (some ⟨g1, 0, none⟩) (nX + 1) cap1))) (a := ⟨NB, 1, none⟩) (C3.block NB (block_lt_of_cell HcE.out.1) Hn.out.2.1)).trans HcE.out.2
                    have HF : Hid (InSt kB w NB base rb ro E A (96 * (k - A) + (i + 1 - 1)) m0 (n0 + (i + 1 - 1)) (.slice (some ⟨g, 0, none⟩) (L + 1) cap2) (wF.setCell ⟨NB, 1, none⟩ (.slice (some ⟨g2, 0, none⟩) (nX + 1) cap3))) := by
                      rw [Hnx.out.1, Hnx.out.2]
                      exact HA5.out H1.out.1 H1.out.2.1 H1.out.2.2 rfl o2 gr2 (by rcases at2 with at2 | at2; exact .inl at2; right; rw [at2]; simp [Value.ownBlock, zE]) rfl
                    clear o2 gr2 at2 C3 H1 HR2E HcE HA5 HbE1 HcN
                    go_wp2_with fail
                    go_roundw
                    case rel => exact ⟨i + 1, by omega, by omega, by go_num, HF⟩
                    case measure => simp [intOf]; omega
              · have hi4' : ¬ (i : Int) < 4 := by omega
                by_cases h16 : i % 16 = 0
                · have h16' : ((i : Int) % 16 == 0) = true := by rw [beq_iff_eq]; omega
                  obtain ⟨rb', ro', X, G, hv5, hu5⟩ := HQ.out
                  obtain ⟨vb, b1, b2, b3⟩ := G.st.rows
                  obtain ⟨vo, q1, q2, q3⟩ := G.st.nums
                  have b1 : wC.cell? ⟨NB, 0, none⟩ = some vb := b1
                  have q1 : wC.cell? ⟨NB, 1, none⟩ = some vo := q1
                  have f0 : wC.frozen? ⟨NB, 0, none⟩ = false := G.st.fz 0 (by omega)
                  have f1 : wC.frozen? ⟨NB, 1, none⟩ = false := G.st.fz 1 (by omega)
                  have hbC : base ≤ wC.heap.size := Nat.le_trans hbase G.chg.size
                  have nrb : rb' ≠ some NB := fun hh => by have := (row_ge b2 (b3.trans hh)).1; have := G.st.le.2.1; omega
                  have nro : ro' ≠ some NB := fun hh => by have := (row_ge q2 (q3.trans hh)).1; have := G.st.le.2.1; omega
                  have Hn : Hid (rb' ≠ some NB ∧ ro' ≠ some NB ∧ vb.ownBlock = rb' ∧ vo.ownBlock = ro' ∧ NB < base) := ⟨nrb, nro, b3, q3, G.st.le.2.1⟩
                  have HR1 : Hid (wC.ownsRow base 59 1 vb (E ++ X).length ((E ++ X).map Ent.v)) := b2
                  have HR2 : Hid (wC.ownsRow base 3 1 vo (E ++ X).length (numsV (E ++ X))) := q2
                  have hXb : (E ++ X).length ≤ 20000000 := by rw [List.length_append, ← HnE.out]; have := Hcb.out; have := G.len; omega
                  have HA5 : Hid (∀ {wD wE wF wG : World} {vb' vo' : Value} {c1 c2 : Obj}, wD.ownsRow base 59 1 vb' ((E ++ X).length + 1) ((E ++ X).map Ent.v ++ [(.slice (some ⟨g, 0, none⟩) (L + 1) cap2)]) → (wC.alloc c1).grownBy wD rb' → (rb' = vb'.ownBlock ∨ vb'.ownBlock = some (wC.heap.size + 1)) → wE = wD.setCell ⟨NB, 0, none⟩ vb' → wF.ownsRow base 3 1 vo' ((E ++ X).length + 1) (numsV (E ++ X) ++ [.int .i64 (m0 : Int)]) → (wE.alloc c2).grownBy wF ro' → (ro' = vo'.ownBlock ∨ vo'.ownBlock = some (wE.heap.size + 1)) → wG = wF.setCell ⟨NB, 1, none⟩ vo' → InSt kB w NB base rb ro E A (cc + 1) m0 (L + 1) (.slice (some ⟨g, 0, none⟩) (L + 1) cap2) wG) :=
                    fun o1 g1 a1 e1 o2 g2 a2 e2 => InSt.add (by decide) (by decide) (by decide) G hv5 hu5 (by omega) hm6 o1 g1 a1 e1 o2 g2 a2 e2
                  obtain ⟨nX, hnX⟩ : ∃ nX, nX = (E ++ X).length := ⟨_, rfl⟩
                  clear HQ G hv5 hu5 b2 b3 q2 q3 nrb nro
                  rw [← hnX] at HR1 HR2 HA5 hXb
                  clear hnX
                  generalize (E ++ X).map Ent.v = ev at *
                  generalize numsV (E ++ X) = em at *
                  have HbC1 : Hid (base ≤ (wC.alloc (.cells #[(.slice (some ⟨g, 0, none⟩) (L + 1) cap2)] 59)).heap.size) := by show _ ≤ _; simp; omega
                  have HXb : Hid (nX ≤ 100000000) := by show _ ≤ _; omega
                  go_wp2_with (at_builtin; go_loud (refine listsB rfl _ _ rfl (.slice (some ⟨g, 0, none⟩) (L + 1) cap2) rfl rfl (HR1.out.alloc _) ⟨wC.heap.size, 0, none⟩ rfl (fun j u hj => cell_newB wC _ 59 j u hj) HXb.out HbC1.out ?d6))
                  case d6 =>
                    show ∀ g cap w', _
                    intro g1 cap1 wD o1 gr1 at1
                    rw [Hn.out.2.2.1] at gr1 at1
                    have C1 : Chg (fun k => rb' = some k) wC wD := (Chg.below ((Below.refl _ _).alloc (Nat.le_refl _) _)).trans' (Chg.grown gr1 fun g hg => hg)
                    have c0D := cell_chg b1 C1 Hn.out.1
                    have c1D := cell_chg q1 C1 Hn.out.1
                    have fD : ∀ j, wD.frozen? ⟨NB, j, none⟩ = wC.frozen? ⟨NB, j, none⟩ := fun j => World.frozen?_of_block (w := wC) (a := ⟨NB, j, none⟩) (C1.block NB (block_lt_of_cell b1) Hn.out.1)
                    have f0D := (fD 0).trans f0
                    have f1D := (fD 1).trans f1
                    have q2D : wD.ownsRow base 3 1 vo nX em := ownsRow_chg HR2.out C1 (fun g hg hh => rows_ne HR2.out HR1.out (by decide) hg (Hn.out.2.2.1.trans hh))
                    have HR2E : Hid ((wD.setCell ⟨NB, 0, none⟩ (.slice (some ⟨g1, 0, none⟩) (nX + 1) cap1)).ownsRow base 3 1 vo nX em) := ownsRow_setOther q2D _ _ _ Hn.out.2.2.2.2
                    have zE : (wD.setCell ⟨NB, 0, none⟩ (.slice (some ⟨g1, 0, none⟩) (nX + 1) cap1)).heap.size = wD.heap.size := by simp [World.setCell]
                    have hbE : base ≤ wD.heap.size := Nat.le_trans hbC C1.size
                    have H1 : Hid (wD.ownsRow base 59 1 (.slice (some ⟨g1, 0, none⟩) (nX + 1) cap1) (nX + 1) (ev ++ [(.slice (some ⟨g, 0, none⟩) (L + 1) cap2)]) ∧ (wC.alloc (.cells #[(.slice (some ⟨g, 0, none⟩) (L + 1) cap2)] 59)).grownBy wD rb' ∧ (rb' = (Value.slice (some ⟨g1, 0, none⟩) (nX + 1) cap1).ownBlock ∨ (Value.slice (some ⟨g1, 0, none⟩) (nX + 1) cap1).ownBlock = some (wC.heap.size + 1))) := ⟨o1, gr1, by rcases at1 with at1 | at1; exact .inl at1; right; rw [at1]; simp [Value.ownBlock]⟩
                    have c1E : (wD.setCell ⟨NB, 0, none⟩ (.slice (some ⟨g1, 0, none⟩) (nX + 1) cap1)).cell? ⟨NB, 1, none⟩ = some vo := by rw [cell_setCell_ne _ _ _ _ _ (by omega)]; exact c1D
                    have f1E : (wD.setCell ⟨NB, 0, none⟩ (.slice (some ⟨g1, 0, none⟩) (nX + 1) cap1)).frozen? ⟨NB, 1, none⟩ = false := by rw [frozen_setCell]; exact f1D
                    have HcE : Hid ((wD.setCell ⟨NB, 0, none⟩ (.slice (some ⟨g1, 0, none⟩) (nX + 1) cap1)).cell? ⟨NB, 1, none⟩ = some vo ∧ (wD.setCell ⟨NB, 0, none⟩ (.slice (some ⟨g1, 0, none⟩) (nX + 1) cap1)).frozen? ⟨NB, 1, none⟩ = false) := ⟨c1E, f1E⟩
                    clear o1 gr1 at1 C1 fD q2D HR2 c1E f1E
                    have HbE1 : Hid (base ≤ ((wD.setCell ⟨NB, 0, none⟩ (.slice (some ⟨g1, 0, none⟩) (nX + 1) cap1)).alloc (.cells #[.int .i64 (m0 : Int)] 3)).heap.size) := by show _ ≤ _; simp [zE]; omega
                    have HcN : Hid (∀ j u, ([.int .i64 (m0 : Int)] : List Value)[j]? = some u → ((wD.setCell ⟨NB, 0, none⟩ (.slice (some ⟨g1, 0, none⟩) (nX + 1) cap1)).alloc (.cells #[.int .i64 (m0 : Int)] 3)).cell? ((⟨wD.heap.size, 0, none⟩ : Addr).add j) = some u) := fun j u hj => by have h := cell_newB (wD.setCell ⟨NB, 0, none⟩ (.slice (some ⟨g1, 0, none⟩) (nX + 1) cap1)) _ 3 j u hj; rw [zE] at h; exact h
                    go_wp2_with (at_builtin; refine numsB rfl _ _ rfl (.int .i64 (m0 : Int)) rfl rfl (HR2E.out.alloc _) ⟨wD.heap.size, 0, none⟩ rfl HcN.out HXb.out HbE1.out ?e6)
                    case e6 =>
                      show ∀ g cap w', _
                      intro g2 cap3 wF o2 gr2 at2
                      rw [Hn.out.2.2.2.1] at gr2 at2
                      have C3 : Chg (fun k => ro' = some k) (wD.setCell ⟨NB, 0, none⟩ (.slice (some ⟨g1, 0, none⟩) (nX + 1) cap1)) wF := (Chg.below ((Below.refl _ _).alloc (Nat.le_refl _) _)).trans' (Chg.grown gr2 fun g hg => hg)
                      have c1F := cell_chg HcE.out.1 C3 Hn.out.2.1
                      have f1F : wF.frozen? ⟨NB, 1, none⟩ = false := (World.frozen?_of_block (w := (wD.setCell ⟨NB, 0, none⟩ (.slice (some ⟨g1, 0, none⟩) (nX + 1) cap1))) (a := ⟨NB, 1, none⟩) (C3.block NB (block_lt_of_cell HcE.out.1) Hn.out.2.1)).trans HcE.out.2
                      have HF : Hid (InSt kB w NB base rb ro E A (96 * (k - A) + (i + 1 - 1)) m0 (n0 + (i + 1 - 1)) (.slice (some ⟨g, 0, none⟩) (L + 1) cap2) (wF.setCell ⟨NB, 1, none⟩ (.slice (some ⟨g2, 0, none⟩) (nX + 1) cap3))) := by
                        rw [Hnx.out.1, Hnx.out.2]
                        exact HA5.out H1.out.1 H1.out.2.1 H1.out.2.2 rfl o2 gr2 (by rcases at2 with at2 | at2; exact .inl at2; right; rw [at2]; simp [Value.ownBlock, zE]) rfl
                      clear o2 gr2 at2 C3 H1 HR2E HcE HA5 HbE1 HcN
                      go_wp2_with fail
                      go_roundw
                      case rel => exact ⟨i + 1, by omega, by omega, by go_num, HF⟩
                      case measure => simp [intOf]; omega
                · have h16' : ((i : Int) % 16 == 0) = false := by rw [beq_eq_false_iff_ne]; omega
                  have HF : Hid (InSt kB w NB base rb ro E A (96 * (k - A) + (i + 1 - 1)) m0 (n0 + (i + 1 - 1)) (.slice (some ⟨g, 0, none⟩) (L + 1) cap2) wC) := by
                    rw [Hnx.out.1, Hnx.out.2]; exact HQ.out.st.more (by omega)
                  clear HQ
                  go_wp2_with fail
                  go_roundw
                  case rel => exact ⟨i + 1, by omega, by omega, by go_num, HF⟩
                  case measure => simp [intOf]; omega
          · have hfull : cap2 < L + 1 := by omega
            have HI3 : Hid (InSt kB w NB base rb ro E A cc m0 L (.slice p2 L cap2) wr) := HI2.out
            have HR : Hid (wr.ownsRow base 5 1 (.slice p2 L cap2) L (kB.marks m0 L)) := (by obtain ⟨_, _, _, _, h7, _⟩ := HI2.out; exact h7)
            have Hp2 : Hid (p2 = none → cap2 = 0) := hp2
            clear HI2 hp2
            go_wp2_with fail
            refine HAt.out.mono ?_
            rintro ee w1 ⟨rfl, rfl⟩
            go_wp2_with (at_builtin; refine fullB rfl _ _ rfl yy rfl (HR.out.alloc _) ⟨w1.heap.size, 0, none⟩ rfl ?r3 ?r5 ?r6 ?r8)
            case r3 => intro j u hj; exact cell_newB w1 _ 5 j u hj
            case r5 => omega
            case r6 => omega
            case r8 =>
              show ∀ v' w', _
              intro v4 wC ho4 hg4
              have HQ0 : InR kB w NB base rb ro E A cc m0 (L + 1) v4 wC := HI3.out.full hbase (by rw [Hyy.out]; first | exact ho4 | (have h9 := ho4; simp at h9; exact h9)) hg4
              obtain ⟨g, cap2, hv4, _, _⟩ := ho4.form (by omega)
              subst hv4
              have HQ : Hid (InR kB w NB base rb ro E A cc m0 (L + 1) (.slice (some ⟨g, 0, none⟩) (L + 1) cap2) wC) := HQ0
              clear HQ0 ho4 hg4 HR HI3 Hp2
              by_cases hi4 : i < 4
              · have hi4' : (i : Int) < 4 := by omega
                obtain ⟨rb', ro', X, G, hv5, hu5⟩ := HQ.out
                obtain ⟨vb, b1, b2, b3⟩ := G.st.rows
                obtain ⟨vo, q1, q2, q3⟩ := G.st.nums
                have b1 : wC.cell? ⟨NB, 0, none⟩ = some vb := b1
                have q1 : wC.cell? ⟨NB, 1, none⟩ = some vo := q1
                have f0 : wC.frozen? ⟨NB, 0, none⟩ = false := G.st.fz 0 (by omega)
                have f1 : wC.frozen? ⟨NB, 1, none⟩ = false := G.st.fz 1 (by omega)
                have hbC : base ≤ wC.heap.size := Nat.le_trans hbase G.chg.size
                have nrb : rb' ≠ some NB := fun hh => by have := (row_ge b2 (b3.trans hh)).1; have := G.st.le.2.1; omega
                have nro : ro' ≠ some NB := fun hh => by have := (row_ge q2 (q3.trans hh)).1; have := G.st.le.2.1; omega
                have Hn : Hid (rb' ≠ some NB ∧ ro' ≠ some NB ∧ vb.ownBlock = rb' ∧ vo.ownBlock = ro' ∧ NB < base) := ⟨nrb, nro, b3, q3, G.st.le.2.1⟩
                have HR1 : Hid (wC.ownsRow base 59 1 vb (E ++ X).length ((E ++ X).map Ent.v)) := b2
                have HR2 : Hid (wC.ownsRow base 3 1 vo (E ++ X).length (numsV (E ++ X))) := q2
                have hXb : (E ++ X).length ≤ 20000000 := by rw [List.length_append, ← HnE.out]; have := Hcb.out; have := G.len; omega
                have HA5 : Hid (∀ {wD wE wF wG : World} {vb' vo' : Value} {c1 c2 : Obj}, wD.ownsRow base 59 1 vb' ((E ++ X).length + 1) ((E ++ X).map Ent.v ++ [(.slice (some ⟨g, 0, none⟩) (L + 1) cap2)]) → (wC.alloc c1).grownBy wD rb' → (rb' = vb'.ownBlock ∨ vb'.ownBlock = some (wC.heap.size + 1)) → wE = wD.setCell ⟨NB, 0, none⟩ vb' → wF.ownsRow base 3 1 vo' ((E ++ X).length + 1) (numsV (E ++ X) ++ [.int .i64 (m0 : Int)]) → (wE.alloc c2).grownBy wF ro' → (ro' = vo'.ownBlock ∨ vo'.ownBlock = some (wE.heap.size + 1)) → wG = wF.setCell ⟨NB, 1, none⟩ vo' → InSt kB w NB base rb ro E A (cc + 1) m0 (L + 1) (.slice (some ⟨g, 0, none⟩) (L + 1) cap2) wG) :=
                  fun o1 g1 a1 e1 o2 g2 a2 e2 => InSt.add (by decide) (by decide) (by decide) G hv5 hu5 (by omega) hm6 o1 g1 a1 e1 o2 g2 a2 e2
                obtain ⟨nX, hnX⟩ : ∃ nX, nX = (E ++ X).length := ⟨_, rfl⟩
                clear HQ G hv5 hu5 b2 b3 q2 q3 nrb nro
                rw [← hnX] at HR1 HR2 HA5 hXb
                clear hnX
                generalize (E ++ X).map Ent.v = ev at *
                generalize numsV (E ++ X) = em at *
                have HbC1 : Hid (base ≤ (wC.alloc (.cells #[(.slice (some ⟨g, 0, none⟩) (L + 1) cap2)] 59)).heap.size) := by show _ ≤ _; simp; omega
                have HXb : Hid (nX ≤ 100000000) := by show _ ≤ _; omega
                go_wp2_with (at_builtin; go_loud (refine listsB rfl _ _ rfl (.slice (some ⟨g, 0, none⟩) (L + 1) cap2) rfl rfl (HR1.out.alloc _) ⟨wC.heap.size, 0, none⟩ rfl (fun j u hj => cell_newB wC _ 59 j u hj) HXb.out HbC1.out ?d6))
                case d6 =>
                  show ∀ g cap w', _
                  intro g1 cap1 wD o1 gr1 at1
                  rw [Hn.out.2.2.1] at gr1 at1
                  have C1 : Chg (fun k => rb' = some k) wC wD := (Chg.below ((Below.refl _ _).alloc (Nat.le_refl _) _)).trans' (Chg.grown gr1 fun g hg => hg)
                  have c0D := cell_chg b1 C1 Hn.out.1
                  have c1D := cell_chg q1 C1 Hn.out.1
                  have fD : ∀ j, wD.frozen? ⟨NB, j, none⟩ = wC.frozen? ⟨NB, j, none⟩ := fun j => World.frozen?_of_block (w := wC) (a := ⟨NB, j, none⟩) (C1.block NB (block_lt_of_cell b1) Hn.out.1)
                  have f0D := (fD 0).trans f0
                  have f1D := (fD 1).trans f1
                  have q2D : wD.ownsRow base 3 1 vo nX em := ownsRow_chg HR2.out C1 (fun g hg hh => rows_ne HR2.out HR1.out (by decide) hg (Hn.out.2.2.1.trans hh))
                  have HR2E : Hid ((wD.setCell ⟨NB, 0, none⟩ (.slice (some ⟨g1, 0, none⟩) (nX + 1) cap1)).ownsRow base 3 1 vo nX em) := ownsRow_setOther q2D _ _ _ Hn.out.2.2.2.2
                  have zE : (wD.setCell ⟨NB, 0, none⟩ (.slice (some ⟨g1, 0, none⟩) (nX + 1) cap1)).heap.size = wD.heap.size := by simp [World.setCell]
                  have hbE : base ≤ wD.heap.size := Nat.le_trans hbC C1.size
                  have H1 : Hid (wD.ownsRow base 59 1 (.slice (some ⟨g1, 0, none⟩) (nX + 1) cap1) (nX + 1) (ev ++ [(.slice (some ⟨g, 0, none⟩) (L + 1) cap2)]) ∧ (wC.alloc (.cells #[(.slice (some ⟨g, 0, none⟩) (L + 1) cap2)] 59)).grownBy wD rb' ∧ (rb' = (Value.slice (some ⟨g1, 0, none⟩) (nX + 1) cap1).ownBlock ∨ (Value.slice (some ⟨g1, 0, none⟩) (nX + 1) cap1).ownBlock = some (wC.heap.size + 1))) := ⟨o1, gr1, by rcases at1 with at1 | at1; exact .inl at1; right; rw [at1]; simp [Value.ownBlock]⟩
                  have c1E : (wD.setCell ⟨NB, 0, none⟩ (.slice (some ⟨g1, 0, none⟩) (nX + 1) cap1)).cell? ⟨NB, 1, none⟩ = some vo := by rw [cell_setCell_ne _ _ _ _ _ (by omega)]; exact c1D
                  have f1E : (wD.setCell ⟨NB, 0, none⟩ (.slice (some ⟨g1, 0, none⟩) (nX + 1) cap1)).frozen? ⟨NB, 1, none⟩ = false := by rw [frozen_setCell]; exact f1D
                  have HcE : Hid ((wD.setCell ⟨NB, 0, none⟩ (.slice (some ⟨g1, 0, none⟩) (nX + 1) cap1)).cell? ⟨NB, 1, none⟩ = some vo ∧ (wD.setCell ⟨NB, 0, none⟩ (.slice (some ⟨g1, 0, none⟩) (nX + 1) cap1)).frozen? ⟨NB, 1, none⟩ = false) := ⟨c1E, f1E⟩
                  clear o1 gr1 at1 C1 fD q2D HR2 c1E f1E
                  have HbE1 : Hid (base ≤ ((wD.setCell ⟨NB, 0, none⟩ (.slice (some ⟨g1, 0, none⟩) (nX + 1) cap1)).alloc (.cells #[.int .i64 (m0 : Int)] 3)).heap.size) := by show _ ≤ _; simp [zE]; omega
                  have HcN : Hid (∀ j u, ([.int .i64 (m0 : Int)] : List Value)[j]? = some u → ((wD.setCell ⟨NB, 0, none⟩ (.slice (some ⟨g1, 0, none⟩) (nX + 1) cap1)).alloc (.cells #[.int .i64 (m0 : Int)] 3)).cell? ((⟨wD.heap.size, 0, none⟩ : Addr).add j) = some u) := fun j u hj => by have h := cell_newB (wD.setCell ⟨NB, 0, none⟩ (.slice (some ⟨g1, 0, none⟩) (nX + 1) cap1)) _ 3 j u hj; rw [zE] at h; exact h
                  go_wp2_with (at_builtin; refine numsB rfl _ _ rfl (.int .i64 (m0 : Int)) rfl rfl (HR2E.out.alloc _) ⟨wD.heap.size, 0, none⟩ rfl HcN.out HXb.out HbE1.out ?e6)
                  case e6 =>
                    show ∀ g cap w', _
                    intro g2 cap3 wF o2 gr2 at2
                    rw [Hn.out.2.2.2.1] at gr2 at2
                    have C3 : Chg (fun k => ro' = some k) (wD.setCell ⟨NB, 0, none⟩ (.slice (some ⟨g1, 0, none⟩) (nX + 1) cap1)) wF := (Chg.below ((Below.refl _ _).alloc (Nat.le_refl _) _)).trans' (Chg.grown gr2 fun g hg => hg)
                    have c1F := cell_chg HcE.out.1 C3 Hn.out.2.1
                    have f1F : wF.frozen? ⟨NB, 1, none⟩ = false := (World.frozen?_of_block (w := (wD.setCell ⟨NB, 0, none⟩ (.slice (some ⟨g1, 0, none⟩) (nX + 1) cap1))) (a := ⟨NB, 1, none⟩) (C3.block NB (block_lt_of_cell HcE.out.1) Hn.out.2.1)).trans HcE.out.2
                    have HF : Hid (InSt kB w NB base rb ro E A (96 * (k - A) + (i + 1 - 1)) m0 (n0 + (i + 1 - 1)) (.slice (some ⟨g, 0, none⟩) (L + 1) cap2) (wF.setCell ⟨NB, 1, none⟩ (.slice (some ⟨g2, 0, none⟩) (nX + 1) cap3))) := by
                      rw [Hnx.out.1, Hnx.out.2]
                      exact HA5.out H1.out.1 H1.out.2.1 H1.out.2.2 rfl o2 gr2 (by rcases at2 with at2 | at2; exact .inl at2; right; rw [at2]; simp [Value.ownBlock, zE]) rfl
                    clear o2 gr2 at2 C3 H1 HR2E HcE HA5 HbE1 HcN
                    go_wp2_with fail
                    go_roundw
                    case rel => exact ⟨i + 1, by omega, by omega, by go_num, HF⟩
                    case measure => simp [intOf]; omega
              · have hi4' : ¬ (i : Int) < 4 := by omega
                by_cases h16 : i % 16 = 0
                · have h16' : ((i : Int) % 16 == 0) = true := by rw [beq_iff_eq]; omega
                  obtain ⟨rb', ro', X, G, hv5, hu5⟩ := HQ.out
                  obtain ⟨vb, b1, b2, b3⟩ := G.st.rows
                  obtain ⟨vo, q1, q2, q3⟩ := G.st.nums
                  have b1 : wC.cell? ⟨NB, 0, none⟩ = some vb := b1
                  have q1 : wC.cell? ⟨NB, 1, none⟩ = some vo := q1
                  have f0 : wC.frozen? ⟨NB, 0, none⟩ = false := G.st.fz 0 (by omega)
                  have f1 : wC.frozen? ⟨NB, 1, none⟩ = false := G.st.fz 1 (by omega)
                  have hbC : base ≤ wC.heap.size := Nat.le_trans hbase G.chg.size
                  have nrb : rb' ≠ some NB := fun hh => by have := (row_ge b2 (b3.trans hh)).1; have := G.st.le.2.1; omega
                  have nro : ro' ≠ some NB := fun hh => by have := (row_ge q2 (q3.trans hh)).1; have := G.st.le.2.1; omega
                  have Hn : Hid (rb' ≠ some NB ∧ ro' ≠ some NB ∧ vb.ownBlock = rb' ∧ vo.ownBlock = ro' ∧ NB < base) := ⟨nrb, nro, b3, q3, G.st.le.2.1⟩
                  have HR1 : Hid (wC.ownsRow base 59 1 vb (E ++ X).length ((E ++ X).map Ent.v)) := b2
                  have HR2 : Hid (wC.ownsRow base 3 1 vo (E ++ X).length (numsV (E ++ X))) := q2
                  have hXb : (E ++ X).length ≤ 20000000 := by rw [List.length_append, ← HnE.out]; have := Hcb.out; have := G.len; omega
                  have HA5 : Hid (∀ {wD wE wF wG : World} {vb' vo' : Value} {c1 c2 : Obj}, wD.ownsRow base 59 1 vb' ((E ++ X).length + 1) ((E ++ X).map Ent.v ++ [(.slice (some ⟨g, 0, none⟩) (L + 1) cap2)]) → (wC.alloc c1).grownBy wD rb' → (rb' = vb'.ownBlock ∨ vb'.ownBlock = some (wC.heap.size + 1)) → wE = wD.setCell ⟨NB, 0, none⟩ vb' → wF.ownsRow base 3 1 vo' ((E ++ X).length + 1) (numsV (E ++ X) ++ [.int .i64 (m0 : Int)]) → (wE.alloc c2).grownBy wF ro' → (ro' = vo'.ownBlock ∨ vo'.ownBlock = some (wE.heap.size + 1)) → wG = wF.setCell ⟨NB, 1, none⟩ vo' → InSt kB w NB base rb ro E A (cc + 1) m0 (L + 1) (.slice (some ⟨g, 0, none⟩) (L + 1) cap2) wG) :=
                    fun o1 g1 a1 e1 o2 g2 a2 e2 => InSt.add (by decide) (by decide) (by decide) G hv5 hu5 (by omega) hm6 o1 g1 a1 e1 o2 g2 a2 e2
                  obtain ⟨nX, hnX⟩ : ∃ nX, nX = (E ++ X).length := ⟨_, rfl⟩
                  clear HQ G hv5 hu5 b2 b3 q2 q3 nrb nro
                  rw [← hnX] at HR1 HR2 HA5 hXb
                  clear hnX
                  generalize (E ++ X).map Ent.v = ev at *
                  generalize numsV (E ++ X) = em at *
                  have HbC1 : Hid (base ≤ (wC.alloc (.cells #[(.slice (some ⟨g, 0, none⟩) (L + 1) cap2)] 59)).heap.size) := by show _ ≤ _; simp; omega
                  have HXb : Hid (nX ≤ 100000000) := by show _ ≤ _; omega
                  go_wp2_with (at_builtin; go_loud (refine listsB rfl _ _ rfl (.slice (some ⟨g, 0, none⟩) (L + 1) cap2) rfl rfl (HR1.out.alloc _) ⟨wC.heap.size, 0, none⟩ rfl (fun j u hj => cell_newB wC _ 59 j u hj) HXb.out HbC1.out ?d6))
                  case d6 =>
                    show ∀ g cap w', _
                    intro g1 cap1 wD o1 gr1 at1
                    rw [Hn.out.2.2.1] at gr1 at1
                    have C1 : Chg (fun k => rb' = some k) wC wD := (Chg.below ((Below.refl _ _).alloc (Nat.le_refl _) _)).trans' (Chg.grown gr1 fun g hg => hg)
                    have c0D := cell_chg b1 C1 Hn.out.1
                    have c1D := cell_chg q1 C1 Hn.out.1
                    have fD : ∀ j, wD.frozen? ⟨NB, j, none⟩ = wC.frozen? ⟨NB, j, none⟩ := fun j => World.frozen?_of_block (w := wC) (a := ⟨NB, j, none⟩) (C1.block NB (block_lt_of_cell b1) Hn.out.1)
                    have f0D := (fD 0).trans f0
                    have f1D := (fD 1).trans f1
                    have q2D : wD.ownsRow base 3 1 vo nX em := ownsRow_chg HR2.out C1 (fun g hg hh => rows_ne HR2.out HR1.out (by decide) hg (Hn.out.2.2.1.trans hh))
                    have HR2E : Hid ((wD.setCell ⟨NB, 0, none⟩ (.slice (some ⟨g1, 0, none⟩) (nX + 1) cap1)).ownsRow base 3 1 vo nX em) := ownsRow_setOther q2D _ _ _ Hn.out.2.2.2.2
                    have zE : (wD.setCell ⟨NB, 0, none⟩ (.slice (some ⟨g1, 0, none⟩) (nX + 1) cap1)).heap.size = wD.heap.size := by simp [World.setCell]
                    have hbE : base ≤ wD.heap.size := Nat.le_trans hbC C1.size
                    have H1 : Hid (wD.ownsRow base 59 1 (.slice (some ⟨g1, 0, none⟩) (nX + 1) cap1) (nX + 1) (ev ++ [(.slice (some ⟨g, 0, none⟩) (L + 1) cap2)]) ∧ (wC.alloc (.cells #[(.slice (some ⟨g, 0, none⟩) (L + 1) cap2)] 59)).grownBy wD rb' ∧ (rb' = (Value.slice (some ⟨g1, 0, none⟩) (nX + 1) cap1).ownBlock ∨ (Value.slice (some ⟨g1, 0, none⟩) (nX + 1) cap1).ownBlock = some (wC.heap.size + 1))) := ⟨o1, gr1, by rcases at1 with at1 | at1; exact .inl at1; right; rw [at1]; simp [Value.ownBlock]⟩
                    have c1E : (wD.setCell ⟨NB, 0, none⟩ (.slice (some ⟨g1, 0, none⟩) (nX + 1) cap1)).cell? ⟨NB, 1, none⟩ = some vo := by rw [cell_setCell_ne _ _ _ _ _ (by omega)]; exact c1D
                    have f1E : (wD.setCell ⟨NB, 0, none⟩ (.slice (some ⟨g1, 0, none⟩) (nX + 1) cap1)).frozen? ⟨NB, 1, none⟩ = false := by rw [frozen_setCell]; exact f1D
                    have HcE : Hid ((wD.setCell ⟨NB, 0, none⟩ (.slice (some ⟨g1, 0, none⟩) (nX + 1) cap1)).cell? ⟨NB, 1, none⟩ = some vo ∧ (wD.setCell ⟨NB, 0, none⟩ (.slice (some ⟨g1, 0, none⟩) (nX + 1) cap1)).frozen? ⟨NB, 1, none⟩ = false) := ⟨c1E, f1E⟩
                    clear o1 gr1 at1 C1 fD q2D HR2 c1E f1E
                    have HbE1 : Hid (base ≤ ((wD.setCell ⟨NB, 0, none⟩ (.slice (some ⟨g1, 0, none⟩) (nX + 1) cap1)).alloc (.cells #[.int .i64 (m0 : Int)] 3)).heap.size) := by show _ ≤ _; simp [zE]; omega
                    have HcN : Hid (∀ j u, ([.int .i64 (m0 : Int)] : List Value)[j]? = some u → ((wD.setCell ⟨NB, 0, none⟩ (.slice (some ⟨g1, 0, none⟩) (nX + 1) cap1)).alloc (.cells #[.int .i64 (m0 : Int)] 3)).cell? ((⟨wD.heap.size, 0, none⟩ : Addr).add j) = some u) := fun j u hj => by have h := cell_newB (wD.setCell ⟨NB, 0, none⟩ (.slice (some ⟨g1, 0, none⟩) (nX + 1) cap1)) _ 3 j u hj; rw [zE] at h; exact h
                    go_wp2_with (at_builtin; refine numsB rfl _ _ rfl (.int .i64 (m0 : Int)) rfl rfl (HR2E.out.alloc _) ⟨wD.heap.size, 0, none⟩ rfl HcN.out HXb.out HbE1.out ?e6)
                    case e6 =>
                      show ∀ g cap w', _
                      intro g2 cap3 wF o2 gr2 at2
                      rw [Hn.out.2.2.2.1] at gr2 at2
                      have C3 : Chg (fun k => ro' = some k) (wD.setCell ⟨NB, 0, none⟩ (.slice (some ⟨g1, 0, none⟩) (nX + 1) cap1)) wF := (Chg.below ((Below.refl _ _).alloc (Nat.le_refl _) _)).trans' (Chg.grown gr2 fun g hg => hg)
                      have c1F := cell_chg HcE.out.1 C3 Hn.out.2.1
                      have f1F : wF.frozen? ⟨NB, 1, none⟩ = false := (World.frozen?_of_block (w := (wD.setCell ⟨NB, 0, none⟩ (.slice (some ⟨g1, 0, none⟩) (nX + 1) cap1))) (a := ⟨NB, 1, none⟩) (C3.block NB (block_lt_of_cell HcE.out.1) Hn.out.2.1)).trans HcE.out.2
                      have HF : Hid (InSt kB w NB base rb ro E A (96 * (k - A) + (i + 1 - 1)) m0 (n0 + (i + 1 - 1)) (.slice (some ⟨g, 0, none⟩) (L + 1) cap2) (wF.setCell ⟨NB, 1, none⟩ (.slice (some ⟨g2, 0, none⟩) (nX + 1) cap3))) := by
                        rw [Hnx.out.1, Hnx.out.2]
                        exact HA5.out H1.out.1 H1.out.2.1 H1.out.2.2 rfl o2 gr2 (by rcases at2 with at2 | at2; exact .inl at2; right; rw [at2]; simp [Value.ownBlock, zE]) rfl
                      clear o2 gr2 at2 C3 H1 HR2E HcE HA5 HbE1 HcN
                      go_wp2_with fail
                      go_roundw
                      case rel => exact ⟨i + 1, by omega, by omega, by go_num, HF⟩
                      case measure => simp [intOf]; omega
                · have h16' : ((i : Int) % 16 == 0) = false := by rw [beq_eq_false_iff_ne]; omega
                  have HF : Hid (InSt kB w NB base rb ro E A (96 * (k - A) + (i + 1 - 1)) m0 (n0 + (i + 1 - 1)) (.slice (some ⟨g, 0, none⟩) (L + 1) cap2) wC) := by
                    rw [Hnx.out.1, Hnx.out.2]; exact HQ.out.st.more (by omega)
                  clear HQ
                  go_wp2_with fail
                  go_roundw
                  case rel => exact ⟨i + 1, by omega, by omega, by go_num, HF⟩
                  case measure => simp [intOf]; omega
        · have hi2 : i = 97 := by omega
          subst hi2
          have HG : Hid (GrowSt kB w NB base rb ro E A (96 * (k + 1 - A)) wr) := by
            have := HI.out.out
            rwa [show 96 * (k - A) + (97 - 1) = 96 * (k + 1 - A) from by omega] at this
          clear HI
          go_wp2_with fail
          go_roundw
          case rel => exact ⟨k + 1, by omega, by omega, by go_num, HG⟩
          case measure => simp [intOf]; omega
    · have hkn : k = nE := by omega
      obtain ⟨rb', ro', X, G⟩ := HS.out
      obtain ⟨vb, b1, b2, b3⟩ := G.st.rows
      obtain ⟨pb, capb, hvb, -⟩ := row_form b2
      rw [hvb] at b1
      have b1 : wr.cell? ⟨NB, 0, none⟩ = some (.slice pb (E ++ X).length capb) := b1
      have c2 : wr.cell? ⟨NB, 2, none⟩ = some (.int .i64 (A : Int)) := G.st.at_
      have f2 : wr.frozen? ⟨NB, 2, none⟩ = false := G.st.fz 2 (by omega)
      have HF : Hid (GrownPost kB w NB base rb ro E A 96 (wr.setCell ⟨NB, 2, none⟩ (.int .i64 ((E ++ X).length : Nat)))) := by
        rw [hkn, HnE.out] at G
        exact G.done
      obtain ⟨nX, hnX⟩ : ∃ nX, nX = (E ++ X).length := ⟨_, rfl⟩
      rw [← hnX] at b1 HF
      clear HS G b2 b3 hvb hnX
      go_wp2_with fail
      go_end0
      exact ⟨rfl, HF.out⟩

end Go.Proofs.YtnjcedlbdjidiaaGreatDoor

namespace Go.Proofs.YtnjcedlbdjidiaaGreatDoor
open Go.RowKit
open M
set_option linter.unusedVariables false
set_option linter.unusedSimpArgs false

theorem infoEW : ∃ i, Tryz.prog.info? 71 = some i ∧ i.zero = some (.int .u64 0) ∧ i.size = 1 ∧ i.bytes = 8 := by
  have hz : (Tryz.prog.info? 71).bind (·.zero) = some (.int .u64 0) := by kernel_rfl
  have hs : (Tryz.prog.info? 71).map (·.size) = some 1 := by kernel_rfl
  have hb : (Tryz.prog.info? 71).map (·.bytes) = some 8 := by kernel_rfl
  cases hi : Tryz.prog.info? 71 with
  | none => simp [hi] at hs
  | some i =>
    simp only [hi, Option.bind_some, Option.map_some, Option.some.injEq] at hz hs hb
    exact ⟨i, rfl, hz, hs, hb⟩

/-- append of one where there is room. -/
theorem roomW {w : World} {ops : Array Oper} {rest : List Oper} {o : Oper} {a : Act} {Q : Exit → Act → World → Prop} (hg : o.guard = none) (s x : Operand) (hop : o.op = Op.call { callee := Callee.builtin Builtin.append, args := #[s, x], argTypes := #[54, 54] })
    {base g L cap : Nat} {xs : List Value} (y : Int) (hs : a.eval s = .slice (some ⟨g, 0, none⟩) L cap) (hrow : w.ownsRow base 71 1 (.slice (some ⟨g, 0, none⟩) L cap) L xs) (ad : Addr) (hx : a.eval x = .slice (some ad) 1 1) (hc : ∀ j u, ([.int .u64 y] : List Value)[j]? = some u → w.cell? (ad.add j) = some u) (hroom : L + 1 ≤ cap) (hL : L ≤ 1000000)
    (h : Hid (∀ w', Hid (w' = w.setCell ⟨g, L, none⟩ (.int .u64 y)) → wpList Tryz.prog ops Q rest (a.put o.dst (.slice (some ⟨g, 0, none⟩) (L + 1) cap)) w')) : wpList Tryz.prog ops Q (o :: rest) a w := by
  obtain ⟨i5, h1, h2, h3, h4⟩ := infoEW
  refine wpList_append_arg w hg s x 54 hop 71 i5 (.int .u64 0) 1 8 Tryz.underlying54 h1 h2 h3 h4 rfl (by decide) g 0 L cap xs hs (by simpa using hrow.1) ?_ ad 1 1 [.int .u64 y] hx rfl hc (by intro u hu; simp at hu; subst hu; rfl) ?_ (by unfold maxLen; omega) (by omega) (fun _ => ?_) (fun h9 => by omega)
  · intro j u hj
    obtain ⟨_, _, _, _, _, h5⟩ := row_form hrow
    rw [Nat.zero_add]; exact (h5 g rfl).2.2.2 j u hj
  · intro _ j hj
    have hj0 : j = 0 := by simp at hj; omega
    subst hj0
    simpa using (row_next hrow (.int .u64 0) hroom).2
  · exact h.out _ (by rw [Nat.zero_add, Nat.mul_one]; rfl)

/-- append of one where there is none. -/
theorem fullW {w : World} {ops : Array Oper} {rest : List Oper} {o : Oper} {a : Act} {Q : Exit → Act → World → Prop} (hg : o.guard = none) (s x : Operand) (hop : o.op = Op.call { callee := Callee.builtin Builtin.append, args := #[s, x], argTypes := #[54, 54] })
    {base L cap : Nat} {p : Option Addr} {xs : List Value} (y : Int) (hs : a.eval s = .slice p L cap) (hrow : w.ownsRow base 71 1 (.slice p L cap) L xs) (ad : Addr) (hx : a.eval x = .slice (some ad) 1 1) (hc : ∀ j u, ([.int .u64 y] : List Value)[j]? = some u → w.cell? (ad.add j) = some u) (hfull : cap < L + 1) (hL : L ≤ 1000000)
    (h : Hid (∀ v' w', w'.ownsRow w.heap.size 71 1 v' (L + 1) (xs ++ [.int .u64 y]) → w.grownBy w' none → wpList Tryz.prog ops Q rest (a.put o.dst v') w')) : wpList Tryz.prog ops Q (o :: rest) a w := by
  obtain ⟨i5, h1, h2, h3, h4⟩ := infoEW
  refine wpList_append_grows w hg s x 54 hop 71 i5 (.int .u64 0) 1 8 Tryz.underlying54 h1 h2 h3 h4 rfl (by decide) p L cap xs hs ?_ (by simpa using hrow.1) ?_ ad 1 1 [.int .u64 y] hx rfl hc (by intro u hu; simp at hu; subst hu; rfl) hfull (by unfold maxLen; omega) (by omega) h.out
  · intro h0
    obtain ⟨_, _, hv, h5, h6, _⟩ := row_form hrow
    simp only [Value.slice.injEq] at hv
    have := h6 (hv.1 ▸ h0)
    omega
  · intro bb hbb j u hj
    obtain ⟨g, rfl⟩ : ∃ g, bb = ⟨g, 0, none⟩ := by
      rcases hrow.2 with ⟨h8, _⟩ | ⟨g, c9, cur, h8, _⟩
      · simp only [Value.slice.injEq] at h8; rw [h8.1] at hbb; simp at hbb
      · simp only [Value.slice.injEq] at h8; rw [h8.1] at hbb; simp only [Option.some.injEq] at hbb; exact ⟨g, hbb.symm⟩
    subst hbb
    obtain ⟨_, _, _, _, _, h5⟩ := row_form hrow
    rw [Addr.add_mid, Nat.zero_add]
    exact (h5 g rfl).2.2.2 j u hj

/-- append of one slice to a row of them. -/
theorem listsW {w : World} {ops : Array Oper} {rest : List Oper} {o : Oper} {a : Act} {Q : Exit → Act → World → Prop} (hg : o.guard = none) (s x : Operand) (hop : o.op = Op.call { callee := Callee.builtin Builtin.append, args := #[s, x], argTypes := #[22, 22] })
    {base n : Nat} {v : Value} {xs : List Value} (y : Value) (hy : y.oneCell' = true) (hs : a.eval s = v) (hrow : w.ownsRow base 54 1 v n xs) (ad : Addr) (hx : a.eval x = .slice (some ad) 1 1) (hc : ∀ j u, ([y] : List Value)[j]? = some u → w.cell? (ad.add j) = some u) (hn : n ≤ 100000000) (hb : base ≤ w.heap.size)
    (h : Hid (∀ g cap w', w'.ownsRow base 54 1 (.slice (some ⟨g, 0, none⟩) (n + 1) cap) (n + 1) (xs ++ [y]) → w.grownBy w' v.ownBlock → (v.ownBlock = some g ∨ g = w.heap.size) → wpList Tryz.prog ops Q rest (a.put o.dst (.slice (some ⟨g, 0, none⟩) (n + 1) cap)) w')) : wpList Tryz.prog ops Q (o :: rest) a w := by
  obtain ⟨i, h1, h2, h3, h4⟩ := infoW
  exact wpList_append_lies w hg s x 22 hop base 54 i (.slice none 0 0) 1 24 Tryz.underlying22 h1 h2 h3 h4 rfl (by decide) v n xs hs hrow ad 1 1 [y] hx rfl hc (by intro u hu; simp at hu; subst hu; exact hy) (by decide) (by unfold maxLen; omega) (by omega) hb _ rfl (fun g cap w' k1 k2 k3 k4 => h.out g cap w' k1 k2 k3)

/-- append of one number to a row of them. -/
theorem numsW {w : World} {ops : Array Oper} {rest : List Oper} {o : Oper} {a : Act} {Q : Exit → Act → World → Prop} (hg : o.guard = none) (s x : Operand) (hop : o.op = Op.call { callee := Callee.builtin Builtin.append, args := #[s, x], argTypes := #[25, 25] })
    {base n : Nat} {v : Value} {xs : List Value} (y : Value) (hy : y.oneCell' = true) (hs : a.eval s = v) (hrow : w.ownsRow base 3 1 v n xs) (ad : Addr) (hx : a.eval x = .slice (some ad) 1 1) (hc : ∀ j u, ([y] : List Value)[j]? = some u → w.cell? (ad.add j) = some u) (hn : n ≤ 100000000) (hb : base ≤ w.heap.size)
    (h : Hid (∀ g cap w', w'.ownsRow base 3 1 (.slice (some ⟨g, 0, none⟩) (n + 1) cap) (n + 1) (xs ++ [y]) → w.grownBy w' v.ownBlock → (v.ownBlock = some g ∨ g = w.heap.size) → wpList Tryz.prog ops Q rest (a.put o.dst (.slice (some ⟨g, 0, none⟩) (n + 1) cap)) w')) : wpList Tryz.prog ops Q (o :: rest) a w := by
  obtain ⟨i, h1, h2, h3, h4⟩ := infoI
  exact wpList_append_lies w hg s x 25 hop base 3 i (.int .i64 0) 1 8 Tryz.underlying25 h1 h2 h3 h4 rfl (by decide) v n xs hs hrow ad 1 1 [y] hx rfl hc (by intro u hu; simp at hu; subst hu; exact hy) (by decide) (by unfold maxLen; omega) (by omega) hb _ rfl (fun g cap w' k1 k2 k3 k4 => h.out g cap w' k1 k2 k3)

set_option maxRecDepth 100000 in
set_option maxHeartbeats 16000000 in
theorem growW_any (NB base : Nat) (rb ro : Option Nat) (E : List Ent) (A : Nat) (w : World) (h : KSt kW w NB base rb ro E A) (hE : E.length ≤ 200000) (hbase : base ≤ w.heap.size) (hfr : ∀ i e, A ≤ i → E[i]? = some e → e.n ≤ 50000 ∧ ∃ p, e.v = .slice p e.n e.n) :
    Calls Tryz.prog 67 #[.pointer (some ⟨NB, 0, none⟩)] w fun q w' => q = .returned (.tuple #[]) ∧ GrownPost kW w NB base rb ro E A 32 w' := by
  have hA := h.le.1
  have c2 : w.cell? ⟨NB, 14, none⟩ = some (.int .i64 (A : Int)) := h.at_
  obtain ⟨vb, b1, b2, _⟩ := h.rows
  obtain ⟨pb, capb, hvb, -⟩ := row_form b2
  subst hvb
  have b1 : w.cell? ⟨NB, 12, none⟩ = some (.slice pb E.length capb) := b1
  have HS0 : Hid (GrowSt kW w NB base rb ro E A (32 * (A - A)) w) := ⟨rb, ro, [], GC.start h⟩
  have Hfr : Hid (∀ i e, A ≤ i → E[i]? = some e → e.n ≤ 50000 ∧ ∃ p, e.v = .slice p e.n e.n) := hfr
  obtain ⟨nE, hnE⟩ : ∃ nE, nE = E.length := ⟨_, rfl⟩
  have HnE : Hid (nE = E.length) := hnE
  rw [← hnE] at b1 hE hA
  clear h b2 hfr hnE
  go_enter Tryz.func67, Tryz.ntmps67
  go_wp2_with fail
  clear b1 c2
  go_loopw [3] (fun t3 wr => ∃ k : Nat, A ≤ k ∧ k ≤ nE ∧ t3 = .int .i64 k ∧ Hid (GrowSt kW w NB base rb ro E A (32 * (k - A)) wr)) (fun t3 _ => nE - (intOf t3).toNat)
  case atStart => exact ⟨A, by omega, by omega, rfl, HS0⟩
  case round =>
    obtain ⟨k, hkA, hk, rfl, HS⟩ := hrel
    by_cases hlt : k < nE
    · have hlt' : (k : Int) < (nE : Int) := by omega
      obtain ⟨e, he⟩ : ∃ e, E[k]? = some e := ⟨E[k]'(by have := HnE.out; omega), List.getElem?_eq_getElem _⟩
      obtain ⟨hn5, pe, hve⟩ := Hfr.out k e hkA he
      obtain ⟨rb', ro', X, G⟩ := HS.out
      have heX : (E ++ X)[k]? = some e := by rw [List.getElem?_append_left (by have := HnE.out; omega)]; exact he
      obtain ⟨hok, _, hm6⟩ := G.st.ok e (List.mem_of_getElem? heX)
      obtain ⟨vb, b1, b2, b3⟩ := G.st.rows
      obtain ⟨vo, q1, q2, q3⟩ := G.st.nums
      obtain ⟨pb, capb, hvb, -⟩ := row_form b2
      obtain ⟨po, capo, hvo, -⟩ := row_form q2
      have hlen : 0 < (E ++ X).length := by rw [List.length_append, ← HnE.out]; omega
      obtain ⟨gb, rfl, _, _, hb4⟩ := row_at b2 hvb hlen
      obtain ⟨go, rfl, _, _, hq4⟩ := row_at q2 hvo hlen
      have d1 : wr.cell? ⟨gb, k, none⟩ = some (.slice pe e.n e.n) := by rw [hb4 k e.v (by simp only [List.getElem?_map, heX, Option.map_some]), hve]
      have d2 : wr.cell? ⟨go, k, none⟩ = some (.int .i64 (e.m : Int)) := hq4 k _ (by simp only [numsV, List.getElem?_map, heX, Option.map_some])
      rw [hvb] at b1
      rw [hvo] at q1
      have b1 : wr.cell? ⟨NB, 12, none⟩ = some (.slice (some ⟨gb, 0, none⟩) (E ++ X).length capb) := b1
      have q1 : wr.cell? ⟨NB, 13, none⟩ = some (.slice (some ⟨go, 0, none⟩) (E ++ X).length capo) := q1
      have HI0 : Hid (InSt kW w NB base rb ro E A (32 * (k - A) + (1 - 1)) e.m (e.n + (1 - 1)) (.slice pe e.n e.n) wr) := ⟨rb', ro', X, G, by rw [← hve]; exact hok, .inl ⟨pe, rfl⟩⟩
      obtain ⟨nX, hnX⟩ : ∃ nX, nX = (E ++ X).length := ⟨_, rfl⟩
      have hnX2 : (k : Int) < (nX : Int) := by rw [hnX, List.length_append, ← HnE.out]; omega
      rw [← hnX] at b1 q1
      clear HS G heX hok b2 b3 q2 q3 hvb hvo hlen hb4 hq4 hve he hnX
      generalize e.n = n0 at *
      generalize e.m = m0 at *
      go_wp2_with fail
      clear b1 q1 d1 d2
      go_loopw [4, 6] (fun t4 t6 wr => ∃ i : Nat, 1 ≤ i ∧ i ≤ 33 ∧ t6 = .int .i64 i ∧ Hid (InSt kW w NB base rb ro E A (32 * (k - A) + (i - 1)) m0 (n0 + (i - 1)) t4 wr)) (fun _ t6 _ => 33 - (intOf t6).toNat)
      case atStart => exact ⟨1, by omega, by omega, rfl, HI0⟩
      case round =>
        obtain ⟨i, hi1, hi97, rfl, HI⟩ := hrel
        by_cases hi : i ≤ 32
        · have hi' : (i : Int) ≤ 32 := by omega
          obtain ⟨L, hL⟩ : ∃ L, L = n0 + (i - 1) := ⟨_, rfl⟩
          obtain ⟨cc, hcc⟩ : ∃ cc, cc = 32 * (k - A) + (i - 1) := ⟨_, rfl⟩
          have HI2 : Hid (InSt kW w NB base rb ro E A cc m0 L u4 wr) := by rw [hL, hcc]; exact HI.out
          have hLb : L ≤ 60000 := by omega
          have Hcb : Hid (cc ≤ 19300000) := by show _ ≤ _; omega
          have Hnx : Hid (n0 + (i + 1 - 1) = L + 1 ∧ 32 * (k - A) + (i + 1 - 1) = cc + 1) := ⟨by omega, by omega⟩
          obtain ⟨p2, cap2, hv2, hle2, hp2, _⟩ := row_form (show wr.ownsRow base 71 1 _ L _ from (by obtain ⟨_, _, _, _, h7, _⟩ := HI2.out; exact h7))
          obtain ⟨yy, hyy⟩ : ∃ yy : Int, ((m0 * 1048576 : Nat) : Int) = yy := ⟨_, rfl⟩
          have HAt : Hid (Calls Tryz.prog 54 #[.int .i64 m0] wr fun e w' => e = .returned (.int .u64 yy) ∧ w' = wr) := by rw [← hyy]; exact markW_any m0 wr hm6
          have Hyy : Hid (kW.mv m0 L = .int .u64 yy) := by rw [← hyy]; rfl
          subst hv2
          clear HI hL hcc hyy
          by_cases hroom : L + 1 ≤ cap2
          · obtain ⟨g, rfl⟩ : ∃ g, p2 = some ⟨g, 0, none⟩ := by
              obtain ⟨_, _, _, _, h7, _⟩ := HI2.out
              rcases h7.2 with ⟨h8, _⟩ | ⟨g, c9, cur, h8, _⟩
              · simp only [Value.slice.injEq] at h8; omega
              · simp only [Value.slice.injEq] at h8; exact ⟨g, h8.1⟩
            have HR : Hid (wr.ownsRow base 71 1 (.slice (some ⟨g, 0, none⟩) L cap2) L (kW.marks m0 L)) := (by obtain ⟨_, _, _, _, h7, _⟩ := HI2.out; exact h7)
            have HN : Hid (∀ o, InR kW w NB base rb ro E A cc m0 (L + 1) (.slice (some ⟨g, 0, none⟩) (L + 1) cap2) ((wr.alloc o).setCell ⟨g, L, none⟩ (.int .u64 yy))) := fun o => by rw [← Hyy.out]; exact HI2.out.room (by decide) (by decide) hroom
            clear HI2
            go_wp2_with fail
            refine HAt.out.mono ?_
            rintro ee w1 ⟨rfl, rfl⟩
            go_wp2_with (at_builtin; refine roomW rfl _ _ rfl yy rfl (HR.out.alloc _) ⟨w1.heap.size, 0, none⟩ rfl ?r3 ?r5 ?r6 ?r8)
            case r3 => intro j u hj; exact cell_newB w1 _ 71 j u hj
            case r5 => omega
            case r6 => omega
            case r8 =>
              show ∀ w', _
              intro wC hwC
              have HQ : Hid (InR kW w NB base rb ro E A cc m0 (L + 1) (.slice (some ⟨g, 0, none⟩) (L + 1) cap2) wC) := by rw [hwC.out]; exact HN.out _
              clear hwC HN HR
              by_cases hi4 : i < 4
              · have hi4' : (i : Int) < 4 := by omega
                obtain ⟨rb', ro', X, G, hv5, hu5⟩ := HQ.out
                obtain ⟨vb, b1, b2, b3⟩ := G.st.rows
                obtain ⟨vo, q1, q2, q3⟩ := G.st.nums
                have b1 : wC.cell? ⟨NB, 12, none⟩ = some vb := b1
                have q1 : wC.cell? ⟨NB, 13, none⟩ = some vo := q1
                have f0 : wC.frozen? ⟨NB, 12, none⟩ = false := G.st.fz 0 (by omega)
                have f1 : wC.frozen? ⟨NB, 13, none⟩ = false := G.st.fz 1 (by omega)
                have hbC : base ≤ wC.heap.size := Nat.le_trans hbase G.chg.size
                have nrb : rb' ≠ some NB := fun hh => by have := (row_ge b2 (b3.trans hh)).1; have := G.st.le.2.1; omega
                have nro : ro' ≠ some NB := fun hh => by have := (row_ge q2 (q3.trans hh)).1; have := G.st.le.2.1; omega
                have Hn : Hid (rb' ≠ some NB ∧ ro' ≠ some NB ∧ vb.ownBlock = rb' ∧ vo.ownBlock = ro' ∧ NB < base) := ⟨nrb, nro, b3, q3, G.st.le.2.1⟩
                have HR1 : Hid (wC.ownsRow base 54 1 vb (E ++ X).length ((E ++ X).map Ent.v)) := b2
                have HR2 : Hid (wC.ownsRow base 3 1 vo (E ++ X).length (numsV (E ++ X))) := q2
                have hXb : (E ++ X).length ≤ 20000000 := by rw [List.length_append, ← HnE.out]; have := Hcb.out; have := G.len; omega
                have HA5 : Hid (∀ {wD wE wF wG : World} {vb' vo' : Value} {c1 c2 : Obj}, wD.ownsRow base 54 1 vb' ((E ++ X).length + 1) ((E ++ X).map Ent.v ++ [(.slice (some ⟨g, 0, none⟩) (L + 1) cap2)]) → (wC.alloc c1).grownBy wD rb' → (rb' = vb'.ownBlock ∨ vb'.ownBlock = some (wC.heap.size + 1)) → wE = wD.setCell ⟨NB, 12, none⟩ vb' → wF.ownsRow base 3 1 vo' ((E ++ X).length + 1) (numsV (E ++ X) ++ [.int .i64 (m0 : Int)]) → (wE.alloc c2).grownBy wF ro' → (ro' = vo'.ownBlock ∨ vo'.ownBlock = some (wE.heap.size + 1)) → wG = wF.setCell ⟨NB, 13, none⟩ vo' → InSt kW w NB base rb ro E A (cc + 1) m0 (L + 1) (.slice (some ⟨g, 0, none⟩) (L + 1) cap2) wG) :=
                  fun o1 g1 a1 e1 o2 g2 a2 e2 => InSt.add (by decide) (by decide) (by decide) G hv5 hu5 (by omega) hm6 o1 g1 a1 e1 o2 g2 a2 e2
                obtain ⟨nX, hnX⟩ : ∃ nX, nX = (E ++ X).length := ⟨_, rfl⟩
                clear HQ G hv5 hu5 b2 b3 q2 q3 nrb nro
                rw [← hnX] at HR1 HR2 HA5 hXb
                clear hnX
                generalize (E ++ X).map Ent.v = ev at *
                generalize numsV (E ++ X) = em at *
                have HbC1 : Hid (base ≤ (wC.alloc (.cells #[(.slice (some ⟨g, 0, none⟩) (L + 1) cap2)] 54)).heap.size) := by show _ ≤ _; simp; omega
                have HXb : Hid (nX ≤ 100000000) := by show _ ≤ _; omega
                go_wp2_with (at_builtin; go_loud (refine listsW rfl _ _ rfl (.slice (some ⟨g, 0, none⟩) (L + 1) cap2) rfl rfl (HR1.out.alloc _) ⟨wC.heap.size, 0, none⟩ rfl (fun j u hj => cell_newB wC _ 54 j u hj) HXb.out HbC1.out ?d6))
                case d6 =>
                  show ∀ g cap w', _
                  intro g1 cap1 wD o1 gr1 at1
                  rw [Hn.out.2.2.1] at gr1 at1
                  have C1 : Chg (fun k => rb' = some k) wC wD := (Chg.below ((Below.refl _ _).alloc (Nat.le_refl _) _)).trans' (Chg.grown gr1 fun g hg => hg)
                  have c0D := cell_chg b1 C1 Hn.out.1
                  have c1D := cell_chg q1 C1 Hn.out.1
                  have fD : ∀ j, wD.frozen? ⟨NB, j, none⟩ = wC.frozen? ⟨NB, j, none⟩ := fun j => World.frozen?_of_block (w := wC) (a := ⟨NB, j, none⟩) (C1.block NB (block_lt_of_cell b1) Hn.out.1)
                  have f0D := (fD 12).trans f0
                  have f1D := (fD 13).trans f1
                  have q2D : wD.ownsRow base 3 1 vo nX em := ownsRow_chg HR2.out C1 (fun g hg hh => rows_ne HR2.out HR1.out (by decide) hg (Hn.out.2.2.1.trans hh))
                  have HR2E : Hid ((wD.setCell ⟨NB, 12, none⟩ (.slice (some ⟨g1, 0, none⟩) (nX + 1) cap1)).ownsRow base 3 1 vo nX em) := ownsRow_setOther q2D _ _ _ Hn.out.2.2.2.2
                  have zE : (wD.setCell ⟨NB, 12, none⟩ (.slice (some ⟨g1, 0, none⟩) (nX + 1) cap1)).heap.size = wD.heap.size := by simp [World.setCell]
                  have hbE : base ≤ wD.heap.size := Nat.le_trans hbC C1.size
                  have H1 : Hid (wD.ownsRow base 54 1 (.slice (some ⟨g1, 0, none⟩) (nX + 1) cap1) (nX + 1) (ev ++ [(.slice (some ⟨g, 0, none⟩) (L + 1) cap2)]) ∧ (wC.alloc (.cells #[(.slice (some ⟨g, 0, none⟩) (L + 1) cap2)] 54)).grownBy wD rb' ∧ (rb' = (Value.slice (some ⟨g1, 0, none⟩) (nX + 1) cap1).ownBlock ∨ (Value.slice (some ⟨g1, 0, none⟩) (nX + 1) cap1).ownBlock = some (wC.heap.size + 1))) := ⟨o1, gr1, by rcases at1 with at1 | at1; exact .inl at1; right; rw [at1]; simp [Value.ownBlock]⟩
                  have c1E : (wD.setCell ⟨NB, 12, none⟩ (.slice (some ⟨g1, 0, none⟩) (nX + 1) cap1)).cell? ⟨NB, 13, none⟩ = some vo := by rw [cell_setCell_ne _ _ _ _ _ (by omega)]; exact c1D
                  have f1E : (wD.setCell ⟨NB, 12, none⟩ (.slice (some ⟨g1, 0, none⟩) (nX + 1) cap1)).frozen? ⟨NB, 13, none⟩ = false := by rw [frozen_setCell]; exact f1D
                  have HcE : Hid ((wD.setCell ⟨NB, 12, none⟩ (.slice (some ⟨g1, 0, none⟩) (nX + 1) cap1)).cell? ⟨NB, 13, none⟩ = some vo ∧ (wD.setCell ⟨NB, 12, none⟩ (.slice (some ⟨g1, 0, none⟩) (nX + 1) cap1)).frozen? ⟨NB, 13, none⟩ = false) := ⟨c1E, f1E⟩
                  clear o1 gr1 at1 C1 fD q2D HR2 c1E f1E
                  have HbE1 : Hid (base ≤ ((wD.setCell ⟨NB, 12, none⟩ (.slice (some ⟨g1, 0, none⟩) (nX + 1) cap1)).alloc (.cells #[.int .i64 (m0 : Int)] 3)).heap.size) := by show _ ≤ _; simp [zE]; omega
                  have HcN : Hid (∀ j u, ([.int .i64 (m0 : Int)] : List Value)[j]? = some u → ((wD.setCell ⟨NB, 12, none⟩ (.slice (some ⟨g1, 0, none⟩) (nX + 1) cap1)).alloc (.cells #[.int .i64 (m0 : Int)] 3)).cell? ((⟨wD.heap.size, 0, none⟩ : Addr).add j) = some u) := fun j u hj => by have h := cell_newB (wD.setCell ⟨NB, 12, none⟩ (.slice (some ⟨g1, 0, none⟩) (nX + 1) cap1)) _ 3 j u hj; rw [zE] at h; exact h
                  go_wp2_with (at_builtin; refine numsW rfl _ _ rfl (.int .i64 (m0 : Int)) rfl rfl (HR2E.out.alloc _) ⟨wD.heap.size, 0, none⟩ rfl HcN.out HXb.out HbE1.out ?e6)
                  case e6 =>
                    show ∀ g cap w', _
                    intro g2 cap3 wF o2 gr2 at2
                    rw [Hn.out.2.2.2.1] at gr2 at2
                    have C3 : Chg (fun k => ro' = some k) (wD.setCell ⟨NB, 12, none⟩ (.slice (some ⟨g1, 0, none⟩) (nX + 1) cap1)) wF := (Chg.below ((Below.refl _ _).alloc (Nat.le_refl _) _)).trans' (Chg.grown gr2 fun g hg => hg)
                    have c1F := cell_chg HcE.out.1 C3 Hn.out.2.1
                    have f1F : wF.frozen? ⟨NB, 13, none⟩ = false := (World.frozen?_of_block (w := (wD.setCell ⟨NB, 12, none⟩ (.slice (some ⟨g1, 0, none⟩) (nX + 1) cap1))) (a := ⟨NB, 13, none⟩) (C3.block NB (block_lt_of_cell HcE.out.1) Hn.out.2.1)).trans HcE.out.2
                    have HF : Hid (InSt kW w NB base rb ro E A (32 * (k - A) + (i + 1 - 1)) m0 (n0 + (i + 1 - 1)) (.slice (some ⟨g, 0, none⟩) (L + 1) cap2) (wF.setCell ⟨NB, 13, none⟩ (.slice (some ⟨g2, 0, none⟩) (nX + 1) cap3))) := by
                      rw [Hnx.out.1, Hnx.out.2]
                      exact HA5.out H1.out.1 H1.out.2.1 H1.out.2.2 rfl o2 gr2 (by rcases at2 with at2 | at2; exact .inl at2; right; rw [at2]; simp [Value.ownBlock, zE]) rfl
                    clear o2 gr2 at2 C3 H1 HR2E HcE HA5 HbE1 HcN
                    go_wp2_with fail
                    go_roundw
                    case rel => exact ⟨i + 1, by omega, by omega, by go_num, HF⟩
                    case measure => simp [intOf]; omega
              · have hi4' : ¬ (i : Int) < 4 := by omega
                by_cases h16 : i % 16 = 0
                · have h16' : ((i : Int) % 16 == 0) = true := by rw [beq_iff_eq]; omega
                  obtain ⟨rb', ro', X, G, hv5, hu5⟩ := HQ.out
                  obtain ⟨vb, b1, b2, b3⟩ := G.st.rows
                  obtain ⟨vo, q1, q2, q3⟩ := G.st.nums
                  have b1 : wC.cell? ⟨NB, 12, none⟩ = some vb := b1
                  have q1 : wC.cell? ⟨NB, 13, none⟩ = some vo := q1
                  have f0 : wC.frozen? ⟨NB, 12, none⟩ = false := G.st.fz 0 (by omega)
                  have f1 : wC.frozen? ⟨NB, 13, none⟩ = false := G.st.fz 1 (by omega)
                  have hbC : base ≤ wC.heap.size := Nat.le_trans hbase G.chg.size
                  have nrb : rb' ≠ some NB := fun hh => by have := (row_ge b2 (b3.trans hh)).1; have := G.st.le.2.1; omega
                  have nro : ro' ≠ some NB := fun hh => by have := (row_ge q2 (q3.trans hh)).1; have := G.st.le.2.1; omega
                  have Hn : Hid (rb' ≠ some NB ∧ ro' ≠ some NB ∧ vb.ownBlock = rb' ∧ vo.ownBlock = ro' ∧ NB < base) := ⟨nrb, nro, b3, q3, G.st.le.2.1⟩
                  have HR1 : Hid (wC.ownsRow base 54 1 vb (E ++ X).length ((E ++ X).map Ent.v)) := b2
                  have HR2 : Hid (wC.ownsRow base 3 1 vo (E ++ X).length (numsV (E ++ X))) := q2
                  have hXb : (E ++ X).length ≤ 20000000 := by rw [List.length_append, ← HnE.out]; have := Hcb.out; have := G.len; omega
                  have HA5 : Hid (∀ {wD wE wF wG : World} {vb' vo' : Value} {c1 c2 : Obj}, wD.ownsRow base 54 1 vb' ((E ++ X).length + 1) ((E ++ X).map Ent.v ++ [(.slice (some ⟨g, 0, none⟩) (L + 1) cap2)]) → (wC.alloc c1).grownBy wD rb' → (rb' = vb'.ownBlock ∨ vb'.ownBlock = some (wC.heap.size + 1)) → wE = wD.setCell ⟨NB, 12, none⟩ vb' → wF.ownsRow base 3 1 vo' ((E ++ X).length + 1) (numsV (E ++ X) ++ [.int .i64 (m0 : Int)]) → (wE.alloc c2).grownBy wF ro' → (ro' = vo'.ownBlock ∨ vo'.ownBlock = some (wE.heap.size + 1)) → wG = wF.setCell ⟨NB, 13, none⟩ vo' → InSt kW w NB base rb ro E A (cc + 1) m0 (L + 1) (.slice (some ⟨g, 0, none⟩) (L + 1) cap2) wG) :=
                    fun o1 g1 a1 e1 o2 g2 a2 e2 => InSt.add (by decide) (by decide) (by decide) G hv5 hu5 (by omega) hm6 o1 g1 a1 e1 o2 g2 a2 e2
                  obtain ⟨nX, hnX⟩ : ∃ nX, nX = (E ++ X).length := ⟨_, rfl⟩
                  clear HQ G hv5 hu5 b2 b3 q2 q3 nrb nro
                  rw [← hnX] at HR1 HR2 HA5 hXb
                  clear hnX
                  generalize (E ++ X).map Ent.v = ev at *
                  generalize numsV (E ++ X) = em at *
                  have HbC1 : Hid (base ≤ (wC.alloc (.cells #[(.slice (some ⟨g, 0, none⟩) (L + 1) cap2)] 54)).heap.size) := by show _ ≤ _; simp; omega
                  have HXb : Hid (nX ≤ 100000000) := by show _ ≤ _; omega
                  go_wp2_with (at_builtin; go_loud (refine listsW rfl _ _ rfl (.slice (some ⟨g, 0, none⟩) (L + 1) cap2) rfl rfl (HR1.out.alloc _) ⟨wC.heap.size, 0, none⟩ rfl (fun j u hj => cell_newB wC _ 54 j u hj) HXb.out HbC1.out ?d6))
                  case d6 =>
                    show ∀ g cap w', _
                    intro g1 cap1 wD o1 gr1 at1
                    rw [Hn.out.2.2.1] at gr1 at1
                    have C1 : Chg (fun k => rb' = some k) wC wD := (Chg.below ((Below.refl _ _).alloc (Nat.le_refl _) _)).trans' (Chg.grown gr1 fun g hg => hg)
                    have c0D := cell_chg b1 C1 Hn.out.1
                    have c1D := cell_chg q1 C1 Hn.out.1
                    have fD : ∀ j, wD.frozen? ⟨NB, j, none⟩ = wC.frozen? ⟨NB, j, none⟩ := fun j => World.frozen?_of_block (w := wC) (a := ⟨NB, j, none⟩) (C1.block NB (block_lt_of_cell b1) Hn.out.1)
                    have f0D := (fD 12).trans f0
                    have f1D := (fD 13).trans f1
                    have q2D : wD.ownsRow base 3 1 vo nX em := ownsRow_chg HR2.out C1 (fun g hg hh => rows_ne HR2.out HR1.out (by decide) hg (Hn.out.2.2.1.trans hh))
                    have HR2E : Hid ((wD.setCell ⟨NB, 12, none⟩ (.slice (some ⟨g1, 0, none⟩) (nX + 1) cap1)).ownsRow base 3 1 vo nX em) := ownsRow_setOther q2D _ _ _ Hn.out.2.2.2.2
                    have zE : (wD.setCell ⟨NB, 12, none⟩ (.slice (some ⟨g1, 0, none⟩) (nX + 1) cap1)).heap.size = wD.heap.size := by simp [World.setCell]
                    have hbE : base ≤ wD.heap.size := Nat.le_trans hbC C1.size
                    have H1 : Hid (wD.ownsRow base 54 1 (.slice (some ⟨g1, 0, none⟩) (nX + 1) cap1) (nX + 1) (ev ++ [(.slice (some ⟨g, 0, none⟩) (L + 1) cap2)]) ∧ (wC.alloc (.cells #[(.slice (some ⟨g, 0, none⟩) (L + 1) cap2)] 54)).grownBy wD rb' ∧ (rb' = (Value.slice (some ⟨g1, 0, none⟩) (nX + 1) cap1).ownBlock ∨ (Value.slice (some ⟨g1, 0, none⟩) (nX + 1) cap1).ownBlock = some (wC.heap.size + 1))) := ⟨o1, gr1, by rcases at1 with at1 | at1; exact .inl at1; right; rw [at1]; simp [Value.ownBlock]⟩
                    have c1E : (wD.setCell ⟨NB, 12, none⟩ (.slice (some ⟨g1, 0, none⟩) (nX + 1) cap1)).cell? ⟨NB, 13, none⟩ = some vo := by rw [cell_setCell_ne _ _ _ _ _ (by omega)]; exact c1D
                    have f1E : (wD.setCell ⟨NB, 12, none⟩ (.slice (some ⟨g1, 0, none⟩) (nX + 1) cap1)).frozen? ⟨NB, 13, none⟩ = false := by rw [frozen_setCell]; exact f1D
                    have HcE : Hid ((wD.setCell ⟨NB, 12, none⟩ (.slice (some ⟨g1, 0, none⟩) (nX + 1) cap1)).cell? ⟨NB, 13, none⟩ = some vo ∧ (wD.setCell ⟨NB, 12, none⟩ (.slice (some ⟨g1, 0, none⟩) (nX + 1) cap1)).frozen? ⟨NB, 13, none⟩ = false) := ⟨c1E, f1E⟩
                    clear o1 gr1 at1 C1 fD q2D HR2 c1E f1E
                    have HbE1 : Hid (base ≤ ((wD.setCell ⟨NB, 12, none⟩ (.slice (some ⟨g1, 0, none⟩) (nX + 1) cap1)).alloc (.cells #[.int .i64 (m0 : Int)] 3)).heap.size) := by show _ ≤ _; simp [zE]; omega
                    have HcN : Hid (∀ j u, ([.int .i64 (m0 : Int)] : List Value)[j]? = some u → ((wD.setCell ⟨NB, 12, none⟩ (.slice (some ⟨g1, 0, none⟩) (nX + 1) cap1)).alloc (.cells #[.int .i64 (m0 : Int)] 3)).cell? ((⟨wD.heap.size, 0, none⟩ : Addr).add j) = some u) := fun j u hj => by have h := cell_newB (wD.setCell ⟨NB, 12, none⟩ (.slice (some ⟨g1, 0, none⟩) (nX + 1) cap1)) _ 3 j u hj; rw [zE] at h; exact h
                    go_wp2_with (at_builtin; refine numsW rfl _ _ rfl (.int .i64 (m0 : Int)) rfl rfl (HR2E.out.alloc _) ⟨wD.heap.size, 0, none⟩ rfl HcN.out HXb.out HbE1.out ?e6)
                    case e6 =>
                      show ∀ g cap w', _
                      intro g2 cap3 wF o2 gr2 at2
                      rw [Hn.out.2.2.2.1] at gr2 at2
                      have C3 : Chg (fun k => ro' = some k) (wD.setCell ⟨NB, 12, none⟩ (.slice (some ⟨g1, 0, none⟩) (nX + 1) cap1)) wF := (Chg.below ((Below.refl _ _).alloc (Nat.le_refl _) _)).trans' (Chg.grown gr2 fun g hg => hg)
                      have c1F := cell_chg HcE.out.1 C3 Hn.out.2.1
                      have f1F : wF.frozen? ⟨NB, 13, none⟩ = false := (World.frozen?_of_block (w := (wD.setCell ⟨NB, 12, none⟩ (.slice (some ⟨g1, 0, none⟩) (nX + 1) cap1))) (a := ⟨NB, 13, none⟩) (C3.block NB (block_lt_of_cell HcE.out.1) Hn.out.2.1)).trans HcE.out.2
                      have HF : Hid (InSt kW w NB base rb ro E A (32 * (k - A) + (i + 1 - 1)) m0 (n0 + (i + 1 - 1)) (.slice (some ⟨g, 0, none⟩) (L + 1) cap2) (wF.setCell ⟨NB, 13, none⟩ (.slice (some ⟨g2, 0, none⟩) (nX + 1) cap3))) := by
                        rw [Hnx.out.1, Hnx.out.2]
                        exact HA5.out H1.out.1 H1.out.2.1 H1.out.2.2 rfl o2 gr2 (by rcases at2 with at2 | at2; exact .inl at2; right; rw [at2]; simp [Value.ownBlock, zE]) rfl
                      clear o2 gr2 at2 C3 H1 HR2E HcE HA5 HbE1 HcN
                      go_wp2_with fail
                      go_roundw
                      case rel => exact ⟨i + 1, by omega, by omega, by go_num, HF⟩
                      case measure => simp [intOf]; omega
                · have h16' : ((i : Int) % 16 == 0) = false := by rw [beq_eq_false_iff_ne]; omega
                  have HF : Hid (InSt kW w NB base rb ro E A (32 * (k - A) + (i + 1 - 1)) m0 (n0 + (i + 1 - 1)) (.slice (some ⟨g, 0, none⟩) (L + 1) cap2) wC) := by
                    rw [Hnx.out.1, Hnx.out.2]; exact HQ.out.st.more (by omega)
                  clear HQ
                  go_wp2_with fail
                  go_roundw
                  case rel => exact ⟨i + 1, by omega, by omega, by go_num, HF⟩
                  case measure => simp [intOf]; omega
          · have hfull : cap2 < L + 1 := by omega
            have HI3 : Hid (InSt kW w NB base rb ro E A cc m0 L (.slice p2 L cap2) wr) := HI2.out
            have HR : Hid (wr.ownsRow base 71 1 (.slice p2 L cap2) L (kW.marks m0 L)) := (by obtain ⟨_, _, _, _, h7, _⟩ := HI2.out; exact h7)
            have Hp2 : Hid (p2 = none → cap2 = 0) := hp2
            clear HI2 hp2
            go_wp2_with fail
            refine HAt.out.mono ?_
            rintro ee w1 ⟨rfl, rfl⟩
            go_wp2_with (at_builtin; refine fullW rfl _ _ rfl yy rfl (HR.out.alloc _) ⟨w1.heap.size, 0, none⟩ rfl ?r3 ?r5 ?r6 ?r8)
            case r3 => intro j u hj; exact cell_newB w1 _ 71 j u hj
            case r5 => omega
            case r6 => omega
            case r8 =>
              show ∀ v' w', _
              intro v4 wC ho4 hg4
              have HQ0 : InR kW w NB base rb ro E A cc m0 (L + 1) v4 wC := HI3.out.full hbase (by rw [Hyy.out]; first | exact ho4 | (have h9 := ho4; simp at h9; exact h9)) hg4
              obtain ⟨g, cap2, hv4, _, _⟩ := ho4.form (by omega)
              subst hv4
              have HQ : Hid (InR kW w NB base rb ro E A cc m0 (L + 1) (.slice (some ⟨g, 0, none⟩) (L + 1) cap2) wC) := HQ0
              clear HQ0 ho4 hg4 HR HI3 Hp2
              by_cases hi4 : i < 4
              · have hi4' : (i : Int) < 4 := by omega
                obtain ⟨rb', ro', X, G, hv5, hu5⟩ := HQ.out
                obtain ⟨vb, b1, b2, b3⟩ := G.st.rows
                obtain ⟨vo, q1, q2, q3⟩ := G.st.nums
                have b1 : wC.cell? ⟨NB, 12, none⟩ = some vb := b1
                have q1 : wC.cell? ⟨NB, 13, none⟩ = some vo := q1
                have f0 : wC.frozen? ⟨NB, 12, none⟩ = false := G.st.fz 0 (by omega)
                have f1 : wC.frozen? ⟨NB, 13, none⟩ = false := G.st.fz 1 (by omega)
                have hbC : base ≤ wC.heap.size := Nat.le_trans hbase G.chg.size
                have nrb : rb' ≠ some NB := fun hh => by have := (row_ge b2 (b3.trans hh)).1; have := G.st.le.2.1; omega
                have nro : ro' ≠ some NB := fun hh => by have := (row_ge q2 (q3.trans hh)).1; have := G.st.le.2.1; omega
                have Hn : Hid (rb' ≠ some NB ∧ ro' ≠ some NB ∧ vb.ownBlock = rb' ∧ vo.ownBlock = ro' ∧ NB < base) := ⟨nrb, nro, b3, q3, G.st.le.2.1⟩
                have HR1 : Hid (wC.ownsRow base 54 1 vb (E ++ X).length ((E ++ X).map Ent.v)) := b2
                have HR2 : Hid (wC.ownsRow base 3 1 vo (E ++ X).length (numsV (E ++ X))) := q2
                have hXb : (E ++ X).length ≤ 20000000 := by rw [List.length_append, ← HnE.out]; have := Hcb.out; have := G.len; omega
                have HA5 : Hid (∀ {wD wE wF wG : World} {vb' vo' : Value} {c1 c2 : Obj}, wD.ownsRow base 54 1 vb' ((E ++ X).length + 1) ((E ++ X).map Ent.v ++ [(.slice (some ⟨g, 0, none⟩) (L + 1) cap2)]) → (wC.alloc c1).grownBy wD rb' → (rb' = vb'.ownBlock ∨ vb'.ownBlock = some (wC.heap.size + 1)) → wE = wD.setCell ⟨NB, 12, none⟩ vb' → wF.ownsRow base 3 1 vo' ((E ++ X).length + 1) (numsV (E ++ X) ++ [.int .i64 (m0 : Int)]) → (wE.alloc c2).grownBy wF ro' → (ro' = vo'.ownBlock ∨ vo'.ownBlock = some (wE.heap.size + 1)) → wG = wF.setCell ⟨NB, 13, none⟩ vo' → InSt kW w NB base rb ro E A (cc + 1) m0 (L + 1) (.slice (some ⟨g, 0, none⟩) (L + 1) cap2) wG) :=
                  fun o1 g1 a1 e1 o2 g2 a2 e2 => InSt.add (by decide) (by decide) (by decide) G hv5 hu5 (by omega) hm6 o1 g1 a1 e1 o2 g2 a2 e2
                obtain ⟨nX, hnX⟩ : ∃ nX, nX = (E ++ X).length := ⟨_, rfl⟩
                clear HQ G hv5 hu5 b2 b3 q2 q3 nrb nro
                rw [← hnX] at HR1 HR2 HA5 hXb
                clear hnX
                generalize (E ++ X).map Ent.v = ev at *
                generalize numsV (E ++ X) = em at *
                have HbC1 : Hid (base ≤ (wC.alloc (.cells #[(.slice (some ⟨g, 0, none⟩) (L + 1) cap2)] 54)).heap.size) := by show _ ≤ _; simp; omega
                have HXb : Hid (nX ≤ 100000000) := by show _ ≤ _; omega
                go_wp2_with (at_builtin; go_loud (refine listsW rfl _ _ rfl (.slice (some ⟨g, 0, none⟩) (L + 1) cap2) rfl rfl (HR1.out.alloc _) ⟨wC.heap.size, 0, none⟩ rfl (fun j u hj => cell_newB wC _ 54 j u hj) HXb.out HbC1.out ?d6))
                case d6 =>
                  show ∀ g cap w', _
                  intro g1 cap1 wD o1 gr1 at1
                  rw [Hn.out.2.2.1] at gr1 at1
                  have C1 : Chg (fun k => rb' = some k) wC wD := (Chg.below ((Below.refl _ _).alloc (Nat.le_refl _) _)).trans' (Chg.grown gr1 fun g hg => hg)
                  have c0D := cell_chg b1 C1 Hn.out.1
                  have c1D := cell_chg q1 C1 Hn.out.1
                  have fD : ∀ j, wD.frozen? ⟨NB, j, none⟩ = wC.frozen? ⟨NB, j, none⟩ := fun j => World.frozen?_of_block (w := wC) (a := ⟨NB, j, none⟩) (C1.block NB (block_lt_of_cell b1) Hn.out.1)
                  have f0D := (fD 12).trans f0
                  have f1D := (fD 13).trans f1
                  have q2D : wD.ownsRow base 3 1 vo nX em := ownsRow_chg HR2.out C1 (fun g hg hh => rows_ne HR2.out HR1.out (by decide) hg (Hn.out.2.2.1.trans hh))
                  have HR2E : Hid ((wD.setCell ⟨NB, 12, none⟩ (.slice (some ⟨g1, 0, none⟩) (nX + 1) cap1)).ownsRow base 3 1 vo nX em) := ownsRow_setOther q2D _ _ _ Hn.out.2.2.2.2
                  have zE : (wD.setCell ⟨NB, 12, none⟩ (.slice (some ⟨g1, 0, none⟩) (nX + 1) cap1)).heap.size = wD.heap.size := by simp [World.setCell]
                  have hbE : base ≤ wD.heap.size := Nat.le_trans hbC C1.size
                  have H1 : Hid (wD.ownsRow base 54 1 (.slice (some ⟨g1, 0, none⟩) (nX + 1) cap1) (nX + 1) (ev ++ [(.slice (some ⟨g, 0, none⟩) (L + 1) cap2)]) ∧ (wC.alloc (.cells #[(.slice (some ⟨g, 0, none⟩) (L + 1) cap2)] 54)).grownBy wD rb' ∧ (rb' = (Value.slice (some ⟨g1, 0, none⟩) (nX + 1) cap1).ownBlock ∨ (Value.slice (some ⟨g1, 0, none⟩) (nX + 1) cap1).ownBlock = some (wC.heap.size + 1))) := ⟨o1, gr1, by rcases at1 with at1 | at1; exact .inl at1; right; rw [at1]; simp [Value.ownBlock]⟩
                  have c1E : (wD.setCell ⟨NB, 12, none⟩ (.slice (some ⟨g1, 0, none⟩) (nX + 1) cap1)).cell? ⟨NB, 13, none⟩ = some vo := by rw [cell_setCell_ne _ _ _ _ _ (by omega)]; exact c1D
                  have f1E : (wD.setCell ⟨NB, 12, none⟩ (.slice (some ⟨g1, 0, none⟩) (nX + 1) cap1)).frozen? ⟨NB, 13, none⟩ = false := by rw [frozen_setCell]; exact f1D
                  have HcE : Hid ((wD.setCell ⟨NB, 12, none⟩ (.slice (some ⟨g1, 0, none⟩) (nX + 1) cap1)).cell? ⟨NB, 13, none⟩ = some vo ∧ (wD.setCell ⟨NB, 12, none⟩ (.slice (some ⟨g1, 0, none⟩) (nX + 1) cap1)).frozen? ⟨NB, 13, none⟩ = false) := ⟨c1E, f1E⟩
                  clear o1 gr1 at1 C1 fD q2D HR2 c1E f1E
                  have HbE1 : Hid (base ≤ ((wD.setCell ⟨NB, 12, none⟩ (.slice (some ⟨g1, 0, none⟩) (nX + 1) cap1)).alloc (.cells #[.int .i64 (m0 : Int)] 3)).heap.size) := by show _ ≤ _; simp [zE]; omega
                  have HcN : Hid (∀ j u, ([.int .i64 (m0 : Int)] : List Value)[j]? = some u → ((wD.setCell ⟨NB, 12, none⟩ (.slice (some ⟨g1, 0, none⟩) (nX + 1) cap1)).alloc (.cells #[.int .i64 (m0 : Int)] 3)).cell? ((⟨wD.heap.size, 0, none⟩ : Addr).add j) = some u) := fun j u hj => by have h := cell_newB (wD.setCell ⟨NB, 12, none⟩ (.slice (some ⟨g1, 0, none⟩) (nX + 1) cap1)) _ 3 j u hj; rw [zE] at h; exact h
                  go_wp2_with (at_builtin; refine numsW rfl _ _ rfl (.int .i64 (m0 : Int)) rfl rfl (HR2E.out.alloc _) ⟨wD.heap.size, 0, none⟩ rfl HcN.out HXb.out HbE1.out ?e6)
                  case e6 =>
                    show ∀ g cap w', _
                    intro g2 cap3 wF o2 gr2 at2
                    rw [Hn.out.2.2.2.1] at gr2 at2
                    have C3 : Chg (fun k => ro' = some k) (wD.setCell ⟨NB, 12, none⟩ (.slice (some ⟨g1, 0, none⟩) (nX + 1) cap1)) wF := (Chg.below ((Below.refl _ _).alloc (Nat.le_refl _) _)).trans' (Chg.grown gr2 fun g hg => hg)
                    have c1F := cell_chg HcE.out.1 C3 Hn.out.2.1
                    have f1F : wF.frozen? ⟨NB, 13, none⟩ = false := (World.frozen?_of_block (w := (wD.setCell ⟨NB, 12, none⟩ (.slice (some ⟨g1, 0, none⟩) (nX + 1) cap1))) (a := ⟨NB, 13, none⟩) (C3.block NB (block_lt_of_cell HcE.out.1) Hn.out.2.1)).trans HcE.out.2
                    have HF : Hid (InSt kW w NB base rb ro E A (32 * (k - A) + (i + 1 - 1)) m0 (n0 + (i + 1 - 1)) (.slice (some ⟨g, 0, none⟩) (L + 1) cap2) (wF.setCell ⟨NB, 13, none⟩ (.slice (some ⟨g2, 0, none⟩) (nX + 1) cap3))) := by
                      rw [Hnx.out.1, Hnx.out.2]
                      exact HA5.out H1.out.1 H1.out.2.1 H1.out.2.2 rfl o2 gr2 (by rcases at2 with at2 | at2; exact .inl at2; right; rw [at2]; simp [Value.ownBlock, zE]) rfl
                    clear o2 gr2 at2 C3 H1 HR2E HcE HA5 HbE1 HcN
                    go_wp2_with fail
                    go_roundw
                    case rel => exact ⟨i + 1, by omega, by omega, by go_num, HF⟩
                    case measure => simp [intOf]; omega
              · have hi4' : ¬ (i : Int) < 4 := by omega
                by_cases h16 : i % 16 = 0
                · have h16' : ((i : Int) % 16 == 0) = true := by rw [beq_iff_eq]; omega
                  obtain ⟨rb', ro', X, G, hv5, hu5⟩ := HQ.out
                  obtain ⟨vb, b1, b2, b3⟩ := G.st.rows
                  obtain ⟨vo, q1, q2, q3⟩ := G.st.nums
                  have b1 : wC.cell? ⟨NB, 12, none⟩ = some vb := b1
                  have q1 : wC.cell? ⟨NB, 13, none⟩ = some vo := q1
                  have f0 : wC.frozen? ⟨NB, 12, none⟩ = false := G.st.fz 0 (by omega)
                  have f1 : wC.frozen? ⟨NB, 13, none⟩ = false := G.st.fz 1 (by omega)
                  have hbC : base ≤ wC.heap.size := Nat.le_trans hbase G.chg.size
                  have nrb : rb' ≠ some NB := fun hh => by have := (row_ge b2 (b3.trans hh)).1; have := G.st.le.2.1; omega
                  have nro : ro' ≠ some NB := fun hh => by have := (row_ge q2 (q3.trans hh)).1; have := G.st.le.2.1; omega
                  have Hn : Hid (rb' ≠ some NB ∧ ro' ≠ some NB ∧ vb.ownBlock = rb' ∧ vo.ownBlock = ro' ∧ NB < base) := ⟨nrb, nro, b3, q3, G.st.le.2.1⟩
                  have HR1 : Hid (wC.ownsRow base 54 1 vb (E ++ X).length ((E ++ X).map Ent.v)) := b2
                  have HR2 : Hid (wC.ownsRow base 3 1 vo (E ++ X).length (numsV (E ++ X))) := q2
                  have hXb : (E ++ X).length ≤ 20000000 := by rw [List.length_append, ← HnE.out]; have := Hcb.out; have := G.len; omega
                  have HA5 : Hid (∀ {wD wE wF wG : World} {vb' vo' : Value} {c1 c2 : Obj}, wD.ownsRow base 54 1 vb' ((E ++ X).length + 1) ((E ++ X).map Ent.v ++ [(.slice (some ⟨g, 0, none⟩) (L + 1) cap2)]) → (wC.alloc c1).grownBy wD rb' → (rb' = vb'.ownBlock ∨ vb'.ownBlock = some (wC.heap.size + 1)) → wE = wD.setCell ⟨NB, 12, none⟩ vb' → wF.ownsRow base 3 1 vo' ((E ++ X).length + 1) (numsV (E ++ X) ++ [.int .i64 (m0 : Int)]) → (wE.alloc c2).grownBy wF ro' → (ro' = vo'.ownBlock ∨ vo'.ownBlock = some (wE.heap.size + 1)) → wG = wF.setCell ⟨NB, 13, none⟩ vo' → InSt kW w NB base rb ro E A (cc + 1) m0 (L + 1) (.slice (some ⟨g, 0, none⟩) (L + 1) cap2) wG) :=
                    fun o1 g1 a1 e1 o2 g2 a2 e2 => InSt.add (by decide) (by decide) (by decide) G hv5 hu5 (by omega) hm6 o1 g1 a1 e1 o2 g2 a2 e2
                  obtain ⟨nX, hnX⟩ : ∃ nX, nX = (E ++ X).length := ⟨_, rfl⟩
                  clear HQ G hv5 hu5 b2 b3 q2 q3 nrb nro
                  rw [← hnX] at HR1 HR2 HA5 hXb
                  clear hnX
                  generalize (E ++ X).map Ent.v = ev at *
                  generalize numsV (E ++ X) = em at *
                  have HbC1 : Hid (base ≤ (wC.alloc (.cells #[(.slice (some ⟨g, 0, none⟩) (L + 1) cap2)] 54)).heap.size) := by show _ ≤ _; simp; omega
                  have HXb : Hid (nX ≤ 100000000) := by show _ ≤ _; omega
                  go_wp2_with (at_builtin; go_loud (refine listsW rfl _ _ rfl (.slice (some ⟨g, 0, none⟩) (L + 1) cap2) rfl rfl (HR1.out.alloc _) ⟨wC.heap.size, 0, none⟩ rfl (fun j u hj => cell_newB wC _ 54 j u hj) HXb.out HbC1.out ?d6))
                  case d6 =>
                    show ∀ g cap w', _
                    intro g1 cap1 wD o1 gr1 at1
                    rw [Hn.out.2.2.1] at gr1 at1
                    have C1 : Chg (fun k => rb' = some k) wC wD := (Chg.below ((Below.refl _ _).alloc (Nat.le_refl _) _)).trans' (Chg.grown gr1 fun g hg => hg)
                    have c0D := cell_chg b1 C1 Hn.out.1
                    have c1D := cell_chg q1 C1 Hn.out.1
                    have fD : ∀ j, wD.frozen? ⟨NB, j, none⟩ = wC.frozen? ⟨NB, j, none⟩ := fun j => World.frozen?_of_block (w := wC) (a := ⟨NB, j, none⟩) (C1.block NB (block_lt_of_cell b1) Hn.out.1)
                    have f0D := (fD 12).trans f0
                    have f1D := (fD 13).trans f1
                    have q2D : wD.ownsRow base 3 1 vo nX em := ownsRow_chg HR2.out C1 (fun g hg hh => rows_ne HR2.out HR1.out (by decide) hg (Hn.out.2.2.1.trans hh))
                    have HR2E : Hid ((wD.setCell ⟨NB, 12, none⟩ (.slice (some ⟨g1, 0, none⟩) (nX + 1) cap1)).ownsRow base 3 1 vo nX em) := ownsRow_setOther q2D _ _ _ Hn.out.2.2.2.2
                    have zE : (wD.setCell ⟨NB, 12, none⟩ (.slice (some ⟨g1, 0, none⟩) (nX + 1) cap1)).heap.size = wD.heap.size := by simp [World.setCell]
                    have hbE : base ≤ wD.heap.size := Nat.le_trans hbC C1.size
                    have H1 : Hid (wD.ownsRow base 54 1 (.slice (some ⟨g1, 0, none⟩) (nX + 1) cap1) (nX + 1) (ev ++ [(.slice (some ⟨g, 0, none⟩) (L + 1) cap2)]) ∧ (wC.alloc (.cells #[(.slice (some ⟨g, 0, none⟩) (L + 1) cap2)] 54)).grownBy wD rb' ∧ (rb' = (Value.slice (some ⟨g1, 0, none⟩) (nX + 1) cap1).ownBlock ∨ (Value.slice (some ⟨g1, 0, none⟩) (nX + 1) cap1).ownBlock = some (wC.heap.size + 1))) := ⟨o1, gr1, by rcases at1 with at1 | at1; exact .inl at1; right; rw [at1]; simp [Value.ownBlock]⟩
                    have c1E : (wD.setCell ⟨NB, 12, none⟩ (.slice (some ⟨g1, 0, none⟩) (nX + 1) cap1)).cell? ⟨NB, 13, none⟩ = some vo := by rw [cell_setCell_ne _ _ _ _ _ (by omega)]; exact c1D
                    have f1E : (wD.setCell ⟨NB, 12, none⟩ (.slice (some ⟨g1, 0, none⟩) (nX + 1) cap1)).frozen? ⟨NB, 13, none⟩ = false := by rw [frozen_setCell]; exact f1D
                    have HcE : Hid ((wD.setCell ⟨NB, 12, none⟩ (.slice (some ⟨g1, 0, none⟩) (nX + 1) cap1)).cell? ⟨NB, 13, none⟩ = some vo ∧ (wD.setCell ⟨NB, 12, none⟩ (.slice (some ⟨g1, 0, none⟩) (nX + 1) cap1)).frozen? ⟨NB, 13, none⟩ = false) := ⟨c1E, f1E⟩
                    clear o1 gr1 at1 C1 fD q2D HR2 c1E f1E
                    have HbE1 : Hid (base ≤ ((wD.setCell ⟨NB, 12, none⟩ (.slice (some ⟨g1, 0, none⟩) (nX + 1) cap1)).alloc (.cells #[.int .i64 (m0 : Int)] 3)).heap.size) := by show _ ≤ _; simp [zE]; omega
                    have HcN : Hid (∀ j u, ([.int .i64 (m0 : Int)] : List Value)[j]? = some u → ((wD.setCell ⟨NB, 12, none⟩ (.slice (some ⟨g1, 0, none⟩) (nX + 1) cap1)).alloc (.cells #[.int .i64 (m0 : Int)] 3)).cell? ((⟨wD.heap.size, 0, none⟩ : Addr).add j) = some u) := fun j u hj => by have h := cell_newB (wD.setCell ⟨NB, 12, none⟩ (.slice (some ⟨g1, 0, none⟩) (nX + 1) cap1)) _ 3 j u hj; rw [zE] at h; exact h
                    go_wp2_with (at_builtin; refine numsW rfl _ _ rfl (.int .i64 (m0 : Int)) rfl rfl (HR2E.out.alloc _) ⟨wD.heap.size, 0, none⟩ rfl HcN.out HXb.out HbE1.out ?e6)
                    case e6 =>
                      show ∀ g cap w', _
                      intro g2 cap3 wF o2 gr2 at2
                      rw [Hn.out.2.2.2.1] at gr2 at2
                      have C3 : Chg (fun k => ro' = some k) (wD.setCell ⟨NB, 12, none⟩ (.slice (some ⟨g1, 0, none⟩) (nX + 1) cap1)) wF := (Chg.below ((Below.refl _ _).alloc (Nat.le_refl _) _)).trans' (Chg.grown gr2 fun g hg => hg)
                      have c1F := cell_chg HcE.out.1 C3 Hn.out.2.1
                      have f1F : wF.frozen? ⟨NB, 13, none⟩ = false := (World.frozen?_of_block (w := (wD.setCell ⟨NB, 12, none⟩ (.slice (some ⟨g1, 0, none⟩) (nX + 1) cap1))) (a := ⟨NB, 13, none⟩) (C3.block NB (block_lt_of_cell HcE.out.1) Hn.out.2.1)).trans HcE.out.2
                      have HF : Hid (InSt kW w NB base rb ro E A (32 * (k - A) + (i + 1 - 1)) m0 (n0 + (i + 1 - 1)) (.slice (some ⟨g, 0, none⟩) (L + 1) cap2) (wF.setCell ⟨NB, 13, none⟩ (.slice (some ⟨g2, 0, none⟩) (nX + 1) cap3))) := by
                        rw [Hnx.out.1, Hnx.out.2]
                        exact HA5.out H1.out.1 H1.out.2.1 H1.out.2.2 rfl o2 gr2 (by rcases at2 with at2 | at2; exact .inl at2; right; rw [at2]; simp [Value.ownBlock, zE]) rfl
                      clear o2 gr2 at2 C3 H1 HR2E HcE HA5 HbE1 HcN
                      go_wp2_with fail
                      go_roundw
                      case rel => exact ⟨i + 1, by omega, by omega, by go_num, HF⟩
                      case measure => simp [intOf]; omega
                · have h16' : ((i : Int) % 16 == 0) = false := by rw [beq_eq_false_iff_ne]; omega
                  have HF : Hid (InSt kW w NB base rb ro E A (32 * (k - A) + (i + 1 - 1)) m0 (n0 + (i + 1 - 1)) (.slice (some ⟨g, 0, none⟩) (L + 1) cap2) wC) := by
                    rw [Hnx.out.1, Hnx.out.2]; exact HQ.out.st.more (by omega)
                  clear HQ
                  go_wp2_with fail
                  go_roundw
                  case rel => exact ⟨i + 1, by omega, by omega, by go_num, HF⟩
                  case measure => simp [intOf]; omega
        · have hi2 : i = 33 := by omega
          subst hi2
          have HG : Hid (GrowSt kW w NB base rb ro E A (32 * (k + 1 - A)) wr) := by
            have := HI.out.out
            rwa [show 32 * (k - A) + (33 - 1) = 32 * (k + 1 - A) from by omega] at this
          clear HI
          go_wp2_with fail
          go_roundw
          case rel => exact ⟨k + 1, by omega, by omega, by go_num, HG⟩
          case measure => simp [intOf]; omega
    · have hkn : k = nE := by omega
      obtain ⟨rb', ro', X, G⟩ := HS.out
      obtain ⟨vb, b1, b2, b3⟩ := G.st.rows
      obtain ⟨pb, capb, hvb, -⟩ := row_form b2
      rw [hvb] at b1
      have b1 : wr.cell? ⟨NB, 12, none⟩ = some (.slice pb (E ++ X).length capb) := b1
      have c2 : wr.cell? ⟨NB, 14, none⟩ = some (.int .i64 (A : Int)) := G.st.at_
      have f2 : wr.frozen? ⟨NB, 14, none⟩ = false := G.st.fz 2 (by omega)
      have HF : Hid (GrownPost kW w NB base rb ro E A 32 (wr.setCell ⟨NB, 14, none⟩ (.int .i64 ((E ++ X).length : Nat)))) := by
        rw [hkn, HnE.out] at G
        exact G.done
      obtain ⟨nX, hnX⟩ : ∃ nX, nX = (E ++ X).length := ⟨_, rfl⟩
      rw [← hnX] at b1 HF
      clear HS G b2 b3 hvb hnX
      go_wp2_with fail
      go_end0
      exact ⟨rfl, HF.out⟩

end Go.Proofs.YtnjcedlbdjidiaaGreatDoor

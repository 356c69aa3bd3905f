/- The law's done. -/
import Derived.Test.YtpiiagjfimdflaaWq
namespace Go.Proofs.Ytpiiagjfimdflaa
open Go.RowKit
open M
set_option linter.unusedVariables false

/-- What Done tells. -/
def doneB (l : List Bool) (e : Int) : List Nat := if e = 0 then packed l else []

theorem ownsRow_base {w : World} {b b' : Nat} {t : TypeId} {v : Value} {n : Nat} {xs : List Value} (h : w.ownsRow b' t 1 v n xs) (hb : b ≤ b') : w.ownsRow b t 1 v n xs := by
  refine ⟨h.1, ?_⟩
  rcases h.2 with h2 | ⟨g, cap, cur, h0, h4, h5⟩
  · exact .inl h2
  · exact .inr ⟨g, cap, cur, h0, by omega, h5⟩

theorem wdone_all (b off lo : Nat) (l : List Bool) (e : Int) (w : World) (hW : Wr w lo b off l e) (hlo : lo ≤ w.heap.size) (hlen : l.length < 1000000000) (bs : List Nat) (hbs : bs = doneB l e) (n : Nat) (hn : n = bs.length) :
    Calls Try.prog 28 #[.pointer (some ⟨b, off, none⟩)] w fun q w' => ∃ p, q = .returned (.tuple #[.slice p n n, .int .i64 e]) ∧ w'.ownsRow w.heap.size 5 1 (.slice p n n) n (bytesV bs) ∧ Below w.heap.size w w' := by
  subst hn
  by_cases he : e = 0
  · subst he
    have hb : packed l = bs := by rw [hbs]; simp [doneB]
    refine (wdone_packed b off lo w l hW hlo (by omega) bs hb).mono fun q w' ⟨h1, h2, h3⟩ => ⟨_, h1, ⟨by simp, .inr ⟨w.heap.size, bs.length, _, rfl, Nat.le_refl _, h2, Nat.le_refl _, ?_, by simp, ?_⟩⟩, h3⟩
    · rw [← hb, packed_length]; unfold maxLen; omega
    · simp only [Nat.mul_one]; exact List.take_of_length_le (by simp)
  · have hb : bs = [] := by rw [hbs]; simp [doneB, he]
    subst hb
    refine (wdone_bad b off e w hW.errCell he).mono fun q w' ⟨h1, m, h2⟩ => ⟨none, h1, ?_, ?_⟩
    · exact World.ownsRow_nil _ _ _ _
    · rw [h2]; exact drewN_below _ _ _

theorem refdone_all (b off : Nat) (r : Option Nat) (l : List Bool) (e : Int) (w : World) (h : Rw w b off r l e) (hr : ∀ g, r = some g → 0 < g) (hl : l.length ≤ 100000000) (bs : List Nat) (hbs : bs = doneB l e) :
    Calls Try.prog 46 #[.pointer (some ⟨b, off, none⟩)] w fun q w' => ∃ v', q = .returned (.tuple #[v', .int .i64 e]) ∧ w'.ownsRow w.heap.size 5 1 v' bs.length (bytesV bs) ∧ Below w.heap.size w w' := by
  by_cases he : e = 0
  · subst he
    have hb : bs = packed l := by rw [hbs]; simp [doneB]
    refine (refdone_ok b off r l w h hr hl).mono fun q w' ⟨v', h1, h2, h3⟩ => ⟨v', h1, ?_, h3⟩
    rw [hb, packed_length]; exact h2
  · have hb : bs = [] := by rw [hbs]; simp [doneB, he]
    subst hb
    refine (refdone_bad b off e w h.err he).mono fun q w' ⟨h1, m, h2⟩ => ⟨_, h1, World.ownsRow_nil _ _ _ _, ?_⟩
    rw [h2]; exact drewN_below _ _ _

theorem LateSt.data {w : World} {NL base : Nat} {rg rw_ : Option Nat} {G : List Got} (h : LateSt w NL base rg rw_ G) {b' : Nat} {v : Value} {n : Nat} {xs : List Value} (hr : w.ownsRow b' 5 1 v n xs) (hb : base ≤ b') : ∀ k, v.ownBlock = some k → ¬ (k = NL ∨ rg = some k ∨ rw_ = some k) := fun k hk hh => by
  obtain ⟨vg, a1, a2, a3⟩ := h.gots
  obtain ⟨vw, b1, b2, b3⟩ := h.wants
  rcases hh with hh | hh | hh
  · have := (row_ge hr hk).1; have := h.lt; omega
  · exact rows_ne hr a2 (by decide) hk (a3.trans hh)
  · exact rows_ne hr b2 (by decide) hk (b3.trans hh)

/-- Behind done: two answers more are kept. -/
def DonePost (w : World) (NL base : Nat) (rg rw_ : Option Nat) (G : List Got) (w' : World) : Prop :=
  ∃ rg' rw' g1 g2, LateSt w' NL base rg' rw' (G ++ [g1, g2]) ∧ RowStep w rg rg' ∧ RowStep w rw_ rw' ∧ (∀ k, g1.v.ownBlock = some k → w.heap.size ≤ k) ∧ (∀ k, g2.v.ownBlock = some k → w.heap.size ≤ k) ∧ (∀ k, g1.v.ownBlock = some k → g2.v.ownBlock ≠ some k) ∧ (∀ k, g1.u.ownBlock = some k ∨ g2.u.ownBlock = some k → w.heap.size ≤ k) ∧ Chg (fun k => k = NL ∨ rg = some k ∨ rw_ = some k) w w'

theorem packed_le (l : List Bool) (e : Int) (h : l.length ≤ 40000) : (doneB l e).length ≤ 5000 ∧ ∀ n ∈ doneB l e, n < 256 := by
  unfold doneB
  split
  · rw [packed_length]; exact ⟨by omega, packed_lt l⟩
  · simp

set_option maxRecDepth 100000 in
set_option maxHeartbeats 8000000 in
theorem done_any (b off lo c o NL base : Nat) (r : Option Nat) (l : List Bool) (e : Int) (rg rw_ : Option Nat) (G : List Got) (w : World) (hW : Wr w lo b off l e) (hlo : lo ≤ w.heap.size) (hR : Rw w c o r l e) (hr : ∀ g, r = some g → base ≤ g) (hl : l.length ≤ 40000) (h : LateSt w NL base rg rw_ G) (hbase : base ≤ w.heap.size) (hG : G.length ≤ 10000)
    (hb : b < base) (hc : c < base) (hbN : b ≠ NL) (hcN : c ≠ NL) :
    Calls Try.prog 11 #[.pointer (some ⟨b, off, none⟩), .pointer (some ⟨c, o, none⟩), .pointer (some ⟨NL, 0, none⟩)] w fun q w' => q = .returned (.bool true) ∧ DonePost w NL base rg rw_ G w' := by
  obtain ⟨bs, hbs⟩ : ∃ bs, bs = doneB l e := ⟨_, rfl⟩
  have hpl := packed_le l e hl
  rw [← hbs] at hpl
  obtain ⟨n, hn⟩ : ∃ n, n = bs.length := ⟨_, rfl⟩
  have Hbs : Hid (bs = doneB l e ∧ n = bs.length ∧ bs.length ≤ 5000 ∧ (∀ n ∈ bs, n < 256)) := ⟨hbs, hn, hpl.1, hpl.2⟩
  have HW : Hid (Wr w lo b off l e) := hW
  have HR : Hid (Rw w c o r l e) := hR
  have Hr : Hid (∀ g, r = some g → base ≤ g) := hr
  have HL : Hid (LateSt w NL base rg rw_ G) := h
  have HD1 : Hid (Calls Try.prog 28 #[.pointer (some ⟨b, off, none⟩)] w fun q w' => ∃ p, q = .returned (.tuple #[.slice p n n, .int .i64 e]) ∧ w'.ownsRow w.heap.size 5 1 (.slice p n n) n (bytesV bs) ∧ Below w.heap.size w w') := wdone_all b off lo l e w hW hlo (by omega) bs hbs n hn
  have nGe : ∀ k, k < base → ¬ (k = NL) → ¬ (k = NL ∨ rg = some k ∨ rw_ = some k) := fun k hk h0 hh => by
    obtain ⟨vg, a1, a2, a3⟩ := h.gots
    obtain ⟨vw, b1, b2, b3⟩ := h.wants
    rcases hh with hh | hh | hh
    · exact h0 hh
    · have := (row_ge a2 (a3.trans hh)).1; omega
    · have := (row_ge b2 (b3.trans hh)).1; omega
  have HnGe : Hid (¬ (b = NL ∨ rg = some b ∨ rw_ = some b) ∧ ¬ (c = NL ∨ rg = some c ∨ rw_ = some c)) := ⟨nGe b hb hbN, nGe c hc hcN⟩
  clear hW hR hr h hbs hpl hn nGe
  go_enter Try.func11, Try.ntmps11
  go_wp2_with fail
  refine HD1.out.mono ?_
  rintro _ w1 ⟨pa, rfl, oa, B1⟩
  have HD2 : Hid (Calls Try.prog 28 #[.pointer (some ⟨b, off, none⟩)] w1 fun q w' => ∃ p, q = .returned (.tuple #[.slice p n n, .int .i64 e]) ∧ w'.ownsRow w1.heap.size 5 1 (.slice p n n) n (bytesV bs) ∧ Below w1.heap.size w1 w') := wdone_all b off lo l e w1 (HW.out.below B1) (Nat.le_trans hlo B1.size) (by omega) bs Hbs.out.1 n Hbs.out.2.1
  have H1 : Hid (w1.ownsRow w.heap.size 5 1 (.slice pa n n) n (bytesV bs) ∧ Below w.heap.size w w1) := ⟨oa, B1⟩
  clear oa B1 HD1
  go_wp2_with fail
  refine HD2.out.mono ?_
  rintro _ w2 ⟨pb, rfl, ob, B2⟩
  have HD3 : Hid (Calls Try.prog 46 #[.pointer (some ⟨c, o, none⟩)] w2 fun q w' => ∃ v', q = .returned (.tuple #[v', .int .i64 e]) ∧ w'.ownsRow w2.heap.size 5 1 v' bs.length (bytesV bs) ∧ Below w2.heap.size w2 w') := refdone_all c o r l e w2 ((HR.out.below H1.out.2).below B2) (fun g hg => by have := Hr.out g hg; omega) (by omega) bs Hbs.out.1
  have H2 : Hid (w2.ownsRow w1.heap.size 5 1 (.slice pb n n) n (bytesV bs) ∧ Below w1.heap.size w1 w2) := ⟨ob, B2⟩
  clear ob B2 HD2
  go_wp2_with fail
  refine HD3.out.mono ?_
  rintro _ w3 ⟨vx, rfl, ox, B3⟩
  have hz1 := H1.out.2.size
  have hz2 := H2.out.2.size
  have hz3 := B3.size
  have B13 : Below w.heap.size w w3 := H1.out.2.trans ((H2.out.2.mono hz1).trans (B3.mono (by omega)))
  have L3 : LateSt w3 NL base rg rw_ G := HL.out.chg (S := fun _ => False) (Chg.below B13) (fun h => h) (fun _ _ h => h) (fun _ _ _ _ h => h) (fun _ _ _ _ _ h => h)
  have oa3 : w3.ownsRow w.heap.size 5 1 (.slice pa n n) n (bytesV bs) := ownsRow_keep H1.out.1 (fun g hg => by have := (H1.out.1.lt g hg).2; rw [B3.block g (by omega), H2.out.2.block g this])
  have ob3 : w3.ownsRow w1.heap.size 5 1 (.slice pb n n) n (bytesV bs) := ownsRow_keep H2.out.1 (fun g hg => by have := (H2.out.1.lt g hg).2; rw [B3.block g this])
  have HA1 : Hid (Calls Try.prog 47 #[.pointer (some ⟨NL, 0, none⟩), .slice pa n n, vx] w3 fun q w' => q = .returned (.tuple #[]) ∧ AddPost w3 NL base rg rw_ G (.slice pa n n) bs w') :=
    add_any NL base n rg rw_ G pa vx bs w3 L3 Hbs.out.2.1 (ownsRow_base oa3 hbase) Hbs.out.2.2.2 Hbs.out.2.2.1 (fun w' hC => by_of_row (ownsRow_chg ox hC (L3.data ox (by omega)))) (by omega) (by omega)
  have H3 : Hid (LateSt w3 NL base rg rw_ G ∧ w3.ownsRow w.heap.size 5 1 (.slice pa n n) n (bytesV bs) ∧ w3.ownsRow w1.heap.size 5 1 (.slice pb n n) n (bytesV bs) ∧ w3.ownsRow w2.heap.size 5 1 vx bs.length (bytesV bs) ∧ Below w.heap.size w w3) := ⟨L3, oa3, ob3, ox, B13⟩
  clear L3 oa3 ob3 ox B13 B3 HD3
  go_wp2_with fail
  refine HA1.out.mono ?_
  rintro _ w4 ⟨rfl, rg1, rw1, u1, L4, s1, s2, ⟨k1, hk1, hk2⟩, C4⟩
  obtain ⟨L3, oa3, ob3, ox3, B13⟩ := H3.out
  have oa4 := ownsRow_chg oa3 C4 (L3.data oa3 hbase)
  have ob4 := ownsRow_chg ob3 C4 (L3.data ob3 (by omega))
  have ox4 := ownsRow_chg ox3 C4 (L3.data ox3 (by omega))
  have hz4 := C4.size
  have HA2 : Hid (Calls Try.prog 47 #[.pointer (some ⟨NL, 0, none⟩), .slice pb n n, vx] w4 fun q w' => q = .returned (.tuple #[]) ∧ AddPost w4 NL base rg1 rw1 (G ++ [⟨.slice pa n n, u1, bs⟩]) (.slice pb n n) bs w') :=
    add_any NL base n rg1 rw1 _ pb vx bs w4 L4 Hbs.out.2.1 (ownsRow_base ob4 (by omega)) Hbs.out.2.2.2 Hbs.out.2.2.1 (fun w' hC => by_of_row (ownsRow_chg ox4 hC (L4.data ox4 (by omega)))) (by omega) (by simp; omega)
  have H4 : Hid (LateSt w4 NL base rg1 rw1 (G ++ [⟨.slice pa n n, u1, bs⟩]) ∧ w4.ownsRow w.heap.size 5 1 (.slice pa n n) n (bytesV bs) ∧ w4.ownsRow w1.heap.size 5 1 (.slice pb n n) n (bytesV bs) ∧ w4.ownsRow w2.heap.size 5 1 vx bs.length (bytesV bs) ∧ RowStep w3 rg rg1 ∧ RowStep w3 rw_ rw1 ∧ Chg (fun k => k = NL ∨ rg = some k ∨ rw_ = some k) w3 w4) := ⟨L4, oa4, ob4, ox4, s1, s2, C4⟩
  have HU1 : Hid (u1.ownBlock = some k1 ∧ w3.heap.size ≤ k1) := ⟨hk1, hk2⟩
  clear L4 oa4 ob4 ox4 s1 s2 hk1 hk2 C4 L3 oa3 ob3 ox3 B13 HA1
  go_wp2_with fail
  refine HA2.out.mono ?_
  rintro _ w5 ⟨rfl, rg2, rw2, u2, L5, s3, s4, ⟨k5, hk5, hk6⟩, C5⟩
  obtain ⟨L4, oa4, ob4, ox4, s1, s2, C4⟩ := H4.out
  obtain ⟨L3, oa3, ob3, ox3, B13⟩ := H3.out
  have oa5 := ownsRow_chg oa4 C5 (L4.data oa4 hbase)
  have ob5 := ownsRow_chg ob4 C5 (L4.data ob4 (by omega))
  have ox5 := ownsRow_chg ox4 C5 (L4.data ox4 (by omega))
  have hz13 := B13.size
  have Call : Chg (fun k => k = NL ∨ rg = some k ∨ rw_ = some k) w w5 := by
    have r1 : Chg (fun k => k = NL ∨ rg = some k ∨ rw_ = some k) w w4 := (Chg.below B13).trans' C4
    refine r1.trans (C5.mono fun k _ hh => ?_)
    rcases hh with hh | hh | hh
    · exact .inl (.inl hh)
    · rcases s1 with s9 | ⟨gg, s9, s10⟩
      · exact .inl (.inr (.inl (s9 ▸ hh)))
      · rw [s9] at hh; simp only [Option.some.injEq] at hh; subst hh; exact .inr (by omega)
    · rcases s2 with s9 | ⟨gg, s9, s10⟩
      · exact .inl (.inr (.inr (s9 ▸ hh)))
      · rw [s9] at hh; simp only [Option.some.injEq] at hh; subst hh; exact .inr (by omega)
  have HF : Hid (∀ m, DonePost w NL base rg rw_ G (w5.drewN m)) := fun m => by
    have up : ∀ {r0 r1 : Option Nat} {wx : World}, w.heap.size ≤ wx.heap.size → RowStep wx r0 r1 → RowStep w r0 r1 := fun hh hs => by
      rcases hs with hs | ⟨gg, hs, hs2⟩
      · exact .inl hs
      · exact .inr ⟨gg, hs, Nat.le_trans hh hs2⟩
    refine ⟨rg2, rw2, ⟨.slice pa n n, u1, bs⟩, ⟨.slice pb n n, u2, bs⟩, ?_, (up hz13 s1).trans (v := w4) (by omega) s3, (up hz13 s2).trans (v := w4) (by omega) s4, fun k hk => (row_ge oa3 hk).1, fun k hk => by have := (row_ge ob3 hk).1; omega, fun k hk hh => ?_, fun k hk => ?_, Call.trans' (Chg.drewN _ _)⟩
    · have e9 : G ++ [(⟨.slice pa n n, u1, bs⟩ : Got), ⟨.slice pb n n, u2, bs⟩] = (G ++ [⟨.slice pa n n, u1, bs⟩]) ++ [⟨.slice pb n n, u2, bs⟩] := by simp
      rw [e9]
      exact L5.chg (S := fun _ => False) (Chg.drewN _ _) (fun h => h) (fun _ _ h => h) (fun _ _ _ _ h => h) (fun _ _ _ _ _ h => h)
    · have h1 := (H1.out.1.lt k hk).2
      have h2 := (row_ge ob3 hh).1
      omega
    · have hu := HU1.out
      rcases hk with hk | hk
      · rw [hu.1] at hk; simp only [Option.some.injEq] at hk; omega
      · rw [hk5] at hk; simp only [Option.some.injEq] at hk; omega
  have hcva : ∀ m, (convert 29 9 (.slice pa n n)).run Try.prog (w5.drewN m) = .ok (.string (strOf bs)) (w5.drewN m) := fun m => convert_by _ _ _ ((by_of_row oa5).drewN m)
  have hcvb : ∀ m, (convert 29 9 (.slice pb n n)).run Try.prog (w5.drewN m) = .ok (.string (strOf bs)) (w5.drewN m) := fun m => convert_by _ _ _ ((by_of_row ob5).drewN m)
  have hcvx : ∀ m, (convert 29 9 vx).run Try.prog (w5.drewN m) = .ok (.string (strOf bs)) (w5.drewN m) := fun m => convert_by _ _ _ ((by_of_row ox5).drewN m)
  have hlen5 : w5.cell? ⟨b, off + 121, none⟩ = some (.int .i64 (l.length : Int)) := cell_chg HW.out.lenCell Call HnGe.out.1
  obtain ⟨pL, cL, hL1, _⟩ := HR.out.bits (fun g hg => by have := Hr.out g hg; omega)
  have hL5 : w5.cell? ⟨c, o, none⟩ = some (.slice pL l.length cL) := cell_chg hL1 Call HnGe.out.2
  have HLen : Hid (∀ m, Calls Try.prog 10 #[.pointer (some ⟨b, off, none⟩)] (w5.drewN m) fun e w' => e = .returned (.int .i64 (l.length : Int)) ∧ w' = w5.drewN m) := fun m => wlen_any b off _ (w5.drewN m) hlen5
  clear L5 s3 s4 hk5 hk6 C5 L4 oa4 ob4 ox4 s1 s2 C4 L3 oa3 ob3 ox3 B13 oa5 ob5 ox5 Call HA2 H3 H4 H1 H2 hL1 hlen5
  generalize strOf bs = ss at *
  generalize l.length = nl at *
  go_wp2_with fail
  go_quiet (first | (go_at_call 23; exact Calls.quiet_of_same (num_any _ _)) | (go_at_call 10; exact Calls.quiet_of_same (HLen.out _)))
  go_wp2_with fail
  go_ret
  exact ⟨rfl, HF.out _⟩

end Go.Proofs.Ytpiiagjfimdflaa

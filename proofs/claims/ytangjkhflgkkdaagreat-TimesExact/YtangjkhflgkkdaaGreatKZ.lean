/- The law's unpacks of rows of times; TimesExact. -/
import Derived.Test.YtangjkhflgkkdaaGreatKF
import Derived.Test.YtangjkhflgkkdaaGreatKK
import Derived.Test.YtangjkhflgkkdaaGreatT2J
import Derived.Test.YtangjkhflgkkdaaGreatT2G
/- The law's packs of rows of times; TimesExact. -/
namespace Go.Proofs.YtangjkhflgkkdaaGreat
open Go.RowKit
open M
set_option linter.unusedVariables false
set_option linter.unusedSimpArgs false

theorem ownsRow_base {w : World} {b b' : Nat} {t : TypeId} {v : Value} {n : Nat} {xs : List Value} (h : w.ownsRow b' t 1 v n xs) (hb : b ≤ b') : w.ownsRow b t 1 v n xs := by
  refine ⟨h.1, ?_⟩
  rcases h.2 with h2 | ⟨g, cap, cur, h0, h4, h5⟩
  · exact .inl h2
  · exact .inr ⟨g, cap, cur, h0, by omega, h5⟩

theorem LateSt.data {w : World} {NL base : Nat} {rg rw_ : Option Nat} {G : List Got} (h : LateSt w NL base rg rw_ G) {b' : Nat} {v : Value} {n : Nat} {xs : List Value} (hr : w.ownsRow b' 5 1 v n xs) (hb : base ≤ b') : ∀ k, v.ownBlock = some k → ¬ (k = NL ∨ rg = some k ∨ rw_ = some k) := fun k hk hh => by
  obtain ⟨vg, a1, a2, a3⟩ := h.gots
  obtain ⟨vw, b1, b2, b3⟩ := h.wants
  rcases hh with hh | hh | hh
  · have := (row_ge hr hk).1; have := h.lt; omega
  · exact rows_ne hr a2 (by decide) hk (a3.trans hh)
  · exact rows_ne hr b2 (by decide) hk (b3.trans hh)

/-- Behind two answers that were put into the Late. -/
def PutPost (L : List Kd) (w : World) (NB NL base : Nat) (F : Nat → KV) (T D U : Nat) (rg rw_ : Option Nat) (G : List Got) (w' : World) : Prop :=
  ∃ rg' rw' g1 g2, BL L w' NB NL base F T D U rg' rw' (G ++ [g1] ++ [g2]) ∧ Chg (LRows NL rg rw_) w w'

/-- Two answers go into the Late, one after another. -/
theorem BL.put2 {L : List Kd} (hL : KOk L) (hB : kB ∈ L) {w w1 w2 : World} {NB NL base : Nat} {F : Nat → KV} {T D U : Nat} {rg rw_ : Option Nat} {G : List Got} (h : BL L w NB NL base F T D U rg rw_ G) {v1 v2 : Value} {bs : List Nat}
    (htot : T + G.length + 2 ≤ 2000) (h1 : ∀ k, v1.ownBlock = some k → ¬ DB L F G k) (h2 : ∀ k, v2.ownBlock = some k → k < w.heap.size ∧ ¬ DB L F G k ∧ v1.ownBlock ≠ some k) {rg1 rw1 : Option Nat} {u1 : Value}
    (hp1 : BL L w1 NB NL base F T D U rg1 rw1 (G ++ [⟨v1, u1, bs⟩])) (hu1 : ∃ k, u1.ownBlock = some k ∧ w.heap.size ≤ k) (hr1 : ∀ k, LRows NL rg1 rw1 k → LRows NL rg rw_ k ∨ w.heap.size ≤ k) (hc1 : Chg (LRows NL rg rw_) w w1)
    (hp2 : LatePost w1 NL base rg1 rw1 (G ++ [⟨v1, u1, bs⟩]) v2 bs w2) : PutPost L w NB NL base F T D U rg rw_ G w2 := by
  have hnew : ∀ k, v2.ownBlock = some k → ¬ DB L F (G ++ [⟨v1, u1, bs⟩]) k := fun k hk hh => by
    obtain ⟨k1, k2, k3⟩ := h2 k hk
    rcases hh with ⟨K, hK, e, he, hh⟩ | ⟨g, hg, hh⟩
    · exact k2 (.inl ⟨K, hK, e, he, hh⟩)
    · simp only [List.mem_append, List.mem_singleton] at hg
      rcases hg with hg | rfl
      · exact k2 (.inr ⟨g, hg, hh⟩)
      · rcases hh with hh | hh
        · exact k3 hh
        · obtain ⟨q, hq1, hq2⟩ := hu1
          have hh : u1.ownBlock = some k := hh
          rw [hq1] at hh
          simp only [Option.some.injEq] at hh
          omega
  obtain ⟨rg2, rw2, u2, B2, hu2, hr2, C2⟩ := hp1.put hL hB (v := v2) (bs := bs) (by simp; omega) hnew hp2
  exact ⟨rg2, rw2, _, _, B2, hc1.trans (C2.mono fun k _ hh => hr1 k hh)⟩

set_option maxRecDepth 100000 in
set_option maxHeartbeats 8000000 in
theorem packs_any {L : List Kd} (hL : KOk L) (hB : kB ∈ L) (NB NL base : Nat) (F : Nat → KV) (T D U : Nat) (rg rw_ : Option Nat) (G : List Got) (p : Option Addr) (n cap0 : Nat) (f : Nat → Int) (w : World) (h : BL L w NB NL base F T D U rg rw_ G)
    (hr : TRow w p n f) (hp : p = none → cap0 = 0) (hf : ∀ i, i < n → I64 (f i)) (hn : n ≤ 1000000) (htot : T + G.length + 2 ≤ 2000) :
    Calls Tryz.prog 4 #[.slice p n cap0, .pointer (some ⟨NL, 0, none⟩)] w fun q w' => q = .returned (.bool true) ∧ PutPost L w NB NL base F T D U rg rw_ G w' := by
  obtain ⟨bs, hbs⟩ : ∃ bs, bs = pkB f n := ⟨_, rfl⟩
  obtain ⟨nb, hnb⟩ : ∃ nb, nb = bs.length := ⟨_, rfl⟩
  obtain ⟨eE, heE⟩ : ∃ eE, eE = pkE f n := ⟨_, rfl⟩
  have hle := pkB_le f n
  have hlt := pkB_lt f n
  rw [← hbs] at hle hlt
  have Hbs : Hid (nb = bs.length ∧ bs.length ≤ 50000 ∧ (∀ n ∈ bs, n < 256)) := ⟨hnb, by omega, hlt⟩
  have HT : Hid (∀ w', Below w.heap.size w w' → TRow w' p n f) := fun w' hB => hr.below hB
  have HP : Hid (∀ (w1 : World) (q : Option Addr) (c : Nat), TRow w1 q n f → Calls Tryz.prog 14 #[.slice q n c] w1 fun e w' => ∃ q, e = .returned (.tuple #[.slice q nb nb, .int .i64 eE]) ∧ w'.ownsRow w1.heap.size 5 1 (.slice q nb nb) nb (bytesV bs) ∧ Below w1.heap.size w1 w') := fun w1 q c h1 => by rw [heE]; exact tpack_all q n c f w1 h1 hf bs hbs nb hnb
  have HQ : Hid (∀ (w1 : World), TRow w1 p n f → Calls Tryz.prog 17 #[.slice p n cap0] w1 fun e w' => ∃ v, e = .returned (.tuple #[v, .int .i64 eE]) ∧ w'.ownsRow w1.heap.size 5 1 v bs.length (bytesV bs) ∧ Below w1.heap.size w1 w') := fun w1 h1 => by rw [heE]; exact rpack_all p n cap0 f w1 h1 hf bs hbs
  have HL1 := hideB (lendT_any p n cap0 f w hr hp hn)
  have HB : Hid (KOk L ∧ kB ∈ L ∧ BL L w NB NL base F T D U rg rw_ G) := ⟨hL, hB, h⟩
  clear hL hB h hr hp hf hbs hnb heE hle hlt
  go_enter Tryz.func4, Tryz.ntmps4
  go_wp2_with fail
  refine HL1.out.mono ?_
  rintro _ w1 ⟨g, cap, rfl, hLt, B1⟩
  have HP1 := hideB (HP.out w1 _ cap hLt.row)
  have H1 : Hid (LentT w1 w.heap.size g cap n f ∧ Below w.heap.size w w1) := ⟨hLt, B1⟩
  clear hLt B1 HL1
  go_wp2_with fail
  refine HP1.out.mono ?_
  rintro _ w2 ⟨pa, rfl, oa, B2⟩
  have L2 := H1.out.1.below B2
  have HP2 := hideB (HP.out w2 _ cap L2.row)
  have H2 : Hid (LentT w2 w.heap.size g cap n f ∧ w2.ownsRow w1.heap.size 5 1 (.slice pa nb nb) nb (bytesV bs) ∧ Below w1.heap.size w1 w2) := ⟨L2, oa, B2⟩
  clear L2 oa B2 HP1
  go_wp2_with fail
  refine HP2.out.mono ?_
  rintro _ w3 ⟨pb, rfl, ob, B3⟩
  have L3 := H2.out.1.below B3
  have z1 := H1.out.2.size
  have z2 := H2.out.2.2.size
  have z3 := B3.size
  have B13 : Below w.heap.size w w3 := H1.out.2.trans ((H2.out.2.2.mono z1).trans (B3.mono (by omega)))
  have HBk := hideB (backT_any w.heap.size g cap n p cap0 f w3 hn L3 (HT.out w3 B13))
  have H3 : Hid (LentT w3 w.heap.size g cap n f ∧ w3.ownsRow w2.heap.size 5 1 (.slice pb nb nb) nb (bytesV bs) ∧ Below w2.heap.size w2 w3 ∧ Below w.heap.size w w3) := ⟨L3, ob, B3, B13⟩
  clear L3 ob B3 B13 HP2
  go_wp2_with fail
  refine HBk.out.mono ?_
  rintro _ w4 ⟨rfl, m4, hw4⟩
  have L4 : LentT w4 w.heap.size g cap n f := by rw [hw4]; exact H3.out.1
  have HOv := hideB (overT_any w.heap.size g cap n f w4 hn L4)
  have H4 : Hid (w4 = w3.drewN m4) := hw4
  have hg4 : Hid (w.heap.size ≤ g ∧ g < w1.heap.size) := ⟨H1.out.1.lies.2.1, H1.out.1.lies.2.2.1⟩
  clear hw4 L4 HBk
  go_wp2_with fail
  refine HOv.out.mono ?_
  rintro _ w5 ⟨rfl, O5⟩
  have e4 : w4.heap.size = w3.heap.size := by rw [H4.out]; rfl
  have B4 : Below w.heap.size w w4 := by rw [H4.out]; exact below_drewN H3.out.2.2.2 m4
  have B45 : Below w.heap.size w4 w5 := O5.below hg4.out.1 B4.size
  have B5 : Below w.heap.size w w5 := B4.trans B45
  have HQ1 := hideB (HQ.out w5 (HT.out w5 B5))
  have H5 : Hid (Only g 0 n w4 w5 ∧ Below w.heap.size w w5) := ⟨O5, B5⟩
  clear O5 B45 B5 B4 HOv
  go_wp2_with fail
  refine HQ1.out.mono ?_
  rintro _ w6 ⟨vx, rfl, ox, B6⟩
  have z5 := H5.out.1.size
  have z6 := B6.size
  have hgz := hg4.out
  have kp : ∀ k, k < w3.heap.size → k ≠ g → w6.heap[k]? = w3.heap[k]? := fun k hk hne => by
    rw [B6.block k (by omega), H5.out.1.block k (by omega) hne, H4.out]; rfl
  have B16 : Below w.heap.size w w6 := H5.out.2.trans (B6.mono (by omega))
  have oa6 : w6.ownsRow w1.heap.size 5 1 (.slice pa nb nb) nb (bytesV bs) := ownsRow_keep H2.out.2.1 (fun k hk => by
    have hh := H2.out.2.1.lt k hk
    rw [kp k (by omega) (by omega), H3.out.2.2.1.block k hh.2])
  have ob6 : w6.ownsRow w2.heap.size 5 1 (.slice pb nb nb) nb (bytesV bs) := ownsRow_keep H3.out.2.1 (fun k hk => by
    have hh := H3.out.2.1.lt k hk
    exact kp k hh.2 (by omega))
  have BL6 := HB.out.2.2.below B16
  have hbase : base ≤ w.heap.size := HB.out.2.2.base_
  have HA1 := hideB (lateAdd_any NL base nb rg rw_ G pa vx bs w6 BL6.late Hbs.out.1 (ownsRow_base oa6 (by omega)) Hbs.out.2.2 Hbs.out.2.1 (fun w' hC => by_of_row (ownsRow_chg ox hC (BL6.late.data ox (by omega)))) (by omega) (by omega))
  have H6 : Hid (BL L w6 NB NL base F T D U rg rw_ G ∧ w6.ownsRow w1.heap.size 5 1 (.slice pa nb nb) nb (bytesV bs) ∧ w6.ownsRow w2.heap.size 5 1 (.slice pb nb nb) nb (bytesV bs) ∧ w6.ownsRow w5.heap.size 5 1 vx bs.length (bytesV bs) ∧ Below w.heap.size w w6) := ⟨BL6, oa6, ob6, ox, B16⟩
  clear BL6 oa6 ob6 ox B16 B6 HQ1 kp
  go_wp2_with fail
  refine HA1.out.mono ?_
  rintro _ w7 ⟨rfl, hP7⟩
  obtain ⟨BL6, oa6, ob6, ox6, B16⟩ := H6.out
  have nA : ∀ k, (Value.slice pa nb nb).ownBlock = some k → ¬ DB L F G k := fun k hk hh => by
    have h1 := (row_ge oa6 hk).1
    have h2 := HB.out.2.2.dbLt hh
    omega
  obtain ⟨rg1, rw1, u1, BL7, hu1, hr1, C7⟩ := BL6.put HB.out.1 HB.out.2.1 (by omega) nA hP7
  have oa7 := ownsRow_chg oa6 C7 (BL6.late.data oa6 (by omega))
  have ob7 := ownsRow_chg ob6 C7 (BL6.late.data ob6 (by omega))
  have ox7 := ownsRow_chg ox6 C7 (BL6.late.data ox6 (by omega))
  have z7 := C7.size
  have HA2 := hideB (lateAdd_any NL base nb rg1 rw1 _ pb vx bs w7 BL7.late Hbs.out.1 (ownsRow_base ob7 (by omega)) Hbs.out.2.2 Hbs.out.2.1 (fun w' hC => by_of_row (ownsRow_chg ox7 hC (BL7.late.data ox7 (by omega)))) (by omega) (by simp; omega))
  have HF : Hid (∀ w8, LatePost w7 NL base rg1 rw1 (G ++ [⟨.slice pa nb nb, u1, bs⟩]) (.slice pb nb nb) bs w8 → PutPost L w NB NL base F T D U rg rw_ G w8 ∧ w8.ownsRow base 5 1 (.slice pa nb nb) nb (bytesV bs) ∧ w8.ownsRow base 5 1 (.slice pb nb nb) nb (bytesV bs) ∧ w8.ownsRow base 5 1 vx bs.length (bytesV bs)) := fun w8 h8 => by
    obtain ⟨rg', rw', g1, g2, q1, q2⟩ := BL6.put2 HB.out.1 HB.out.2.1 (by omega) nA (fun k hk => by
      have h1 := row_ge ob6 hk
      refine ⟨h1.2, fun hh => ?_, fun hh => ?_⟩
      · have h2 := HB.out.2.2.dbLt hh; omega
      · have h3 := (H2.out.2.1.lt k hh).2; omega) BL7 hu1 hr1 C7 h8
    obtain ⟨_, _, _, _, _, _, _, C8⟩ := h8
    refine ⟨⟨rg', rw', g1, g2, q1, (Chg.below B16).trans' q2⟩, ownsRow_chg (ownsRow_base oa7 (by omega)) C8 (BL7.late.data oa7 (by omega)), ownsRow_chg (ownsRow_base ob7 (by omega)) C8 (BL7.late.data ob7 (by omega)), ownsRow_chg (ownsRow_base ox7 (by omega)) C8 (BL7.late.data ox7 (by omega))⟩
  clear BL7 oa7 ob7 ox7 hu1 hr1 C7 BL6 oa6 ob6 ox6 B16 HA1 hP7 nA
  go_wp2_with fail
  refine HA2.out.mono ?_
  rintro _ w8 ⟨rfl, hP8⟩
  obtain ⟨PP, oa8, ob8, ox8⟩ := HF.out w8 hP8
  have HPP := hideB PP
  have hcva : (convert 57 9 (.slice pa nb nb)).run Tryz.prog w8 = .ok (.string (strOf bs)) w8 := convert_by _ _ _ (by_of_row oa8)
  have hcvb : (convert 57 9 (.slice pb nb nb)).run Tryz.prog w8 = .ok (.string (strOf bs)) w8 := convert_by _ _ _ (by_of_row ob8)
  have hcvx : (convert 57 9 vx).run Tryz.prog w8 = .ok (.string (strOf bs)) w8 := convert_by _ _ _ (by_of_row ox8)
  clear PP oa8 ob8 ox8 HF HA2 hP8 H1 H2 H3 H4 H5 H6
  generalize strOf bs = ss at *
  go_wp2_with fail
  refine (num_any _ _).mono ?_
  rintro _ w9 ⟨rfl, hw9⟩
  have hw9 := hw9.symm
  subst hw9
  go_wp2_with fail
  refine (num_any _ _).mono ?_
  rintro _ w9 ⟨rfl, hw9⟩
  have hw9 := hw9.symm
  subst hw9
  go_wp2_with fail
  go_ret
  exact ⟨rfl, HPP.out⟩

end Go.Proofs.YtangjkhflgkkdaaGreat

namespace Go.Proofs.YtangjkhflgkkdaaGreat
open Go.RowKit
open M
open Classical
set_option linter.unusedVariables false
set_option linter.unusedSimpArgs false

theorem row_trow {w : World} {B n : Nat} {f : Nat → Int} {p : Option Addr} {cap : Nat} (h : w.ownsRow B 2 1 (.slice p n cap) n (timesV n f)) (hB : B ≤ w.heap.size) : TRow w p n f := by
  obtain ⟨ad, c, hv, _, hr⟩ := (show TSt B w f n (.slice p n cap) w from ⟨h, Below.refl _ _, hB⟩).row
  simp only [Value.slice.injEq] at hv
  obtain ⟨rfl, _, _⟩ := hv
  exact hr

theorem runpack_row (v : Value) (bs : List Nat) (z : Int) (w : World) (h : IsBy w v bs) (hb : ∀ n ∈ bs, n < 256) (hl : bs.length ≤ 1000000) (L : Nat) (hL : L = upN bs z) :
    Calls Tryz.prog 24 #[v, .int .i64 z] w fun e w' => ∃ q cap, e = .returned (.tuple #[.slice q L cap, .int .i64 (upE bs z)]) ∧ w'.ownsRow w.heap.size 2 1 (.slice q L cap) L (timesV L (upF bs z)) ∧ Below w.heap.size w w' := by
  by_cases hz : 0 ≤ z ∧ z ≤ 4096
  · obtain ⟨n, rfl⟩ : ∃ n : Nat, z = (n : Int) := ⟨z.toNat, by omega⟩
    refine (runpack_any v bs n w h hb hl (by omega)).mono ?_
    rintro e w' (⟨rfl, h1, h2⟩ | ⟨u, f, B, rfl, h1, h2, h5, h6, h7⟩)
    · have hE : upE bs (n : Int) = 62 := by simp [upE, hz, h2]
      have hN : L = 0 := by rw [hL]; unfold upN; rw [hE]; rfl
      subst hN
      exact ⟨none, 0, by rw [hE], World.ownsRow_nil _ _ _ _, h1⟩
    · have hx : ∃ h, Packs bs h (n : Int).toNat := ⟨f, by simpa using h6⟩
      have hE : upE bs (n : Int) = 0 := by simp only [upE, if_pos hz, if_pos hx]
      have hN : L = n := by rw [hL]; unfold upN; rw [if_pos hE]; simp
      subst hN
      have h8 : Packs bs (upF bs (L : Int)) L := by unfold upF; rw [dif_pos hx]; simpa using Classical.choose_spec hx
      have h9 := h2.congr fun j hj => h7 _ h8 j hj
      obtain ⟨ad, cap, rfl, hc, hr⟩ := h9.row
      exact ⟨ad, cap, by rw [hE], ownsRow_base h9.1 h1, h5⟩
  · have hE : upE bs z = 60 := by simp only [upE, if_neg hz]
    have hN : L = 0 := by rw [hL]; unfold upN; rw [hE]; rfl
    subst hN
    refine (runpack_count v z w (by omega)).mono ?_
    rintro e w' ⟨rfl, rfl⟩
    exact ⟨none, 0, by rw [hE], World.ownsRow_nil _ _ _ _, Below.refl _ _⟩

theorem kT_in : kT ∈ LT := by simp [LT]
theorem kB_in : kB ∈ LT := by simp [LT]
theorem look_LT : LookOk LT := fun NB base F T D U w h hE hb hf => look_book NB base F T D U w h hE hb hf

/-- Between the Book's steps: what was unpacked twice, and the document's. -/
def UnSt (w1 : World) (NB NL base : Nat) (F : Nat → KV) (T D U : Nat) (rg rw_ : Option Nat) (G : List Got) (a b c n cq : Nat) (ff : Nat → Int) (px py pq : Option Addr) (wx : World) : Prop :=
  BL LT wx NB NL base F T D U rg rw_ G ∧ wx.ownsRow a 2 1 (.slice px n n) n (timesV n ff) ∧ wx.ownsRow b 2 1 (.slice py n n) n (timesV n ff) ∧ wx.ownsRow c 2 1 (.slice pq n cq) n (timesV n ff) ∧ Below a w1 wx

theorem UnSt.drewN {w1 : World} {NB NL base : Nat} {F : Nat → KV} {T D U : Nat} {rg rw_ : Option Nat} {G : List Got} {a b c n cq : Nat} {ff : Nat → Int} {px py pq : Option Addr} {wx : World} (h : UnSt w1 NB NL base F T D U rg rw_ G a b c n cq ff px py pq wx) (m : Nat) : UnSt w1 NB NL base F T D U rg rw_ G a b c n cq ff px py pq (wx.drewN m) :=
  ⟨h.1.below (below_drewN (Below.refl _ _) m), h.2.1, h.2.2.1, h.2.2.2.1, below_drewN h.2.2.2.2 m⟩

set_option maxRecDepth 100000 in
set_option maxHeartbeats 8000000 in
theorem unpacks_any (NB NL base : Nat) (F : Nat → KV) (T D U : Nat) (rg rw_ : Option Nat) (G : List Got) (vI vB : Value) (bs : List Nat) (z : Int) (w : World) (h : BL LT w NB NL base F T D U rg rw_ G)
    (hI : IsBy w vI bs) (hV : IsBy w vB bs) (hb : ∀ x ∈ bs, x < 256) (hl : bs.length ≤ 1000000) (htot : T + G.length + 2 ≤ 2000) :
    Calls Tryz.prog 7 #[vI, vB, .int .i64 z, .pointer (some ⟨NB, 0, none⟩)] w fun q w' => q = .returned (.bool true) ∧ ∃ F' U', BL LT w' NB NL base F' (T + 2) D U' rg rw_ G ∧ (∀ k, FP LT NB NL F' rg rw_ G k → FP LT NB NL F rg rw_ G k ∨ w.heap.size ≤ k) ∧ Chg (BkRows LT NB F) w w' := by
  obtain ⟨n, hn⟩ : ∃ n, n = upN bs z := ⟨_, rfl⟩
  obtain ⟨ff, hff⟩ : ∃ ff, ff = upF bs z := ⟨_, rfl⟩
  obtain ⟨eE, heE⟩ : ∃ eE, eE = upE bs z := ⟨_, rfl⟩
  have hn4 : n ≤ 4096 := by rw [hn]; exact upN_le _ _
  have HU1 : Hid (∀ w1, Below w.heap.size w w1 → Calls Tryz.prog 23 #[vI, .int .i64 z] w1 fun e w' => ∃ q, e = .returned (.tuple #[.slice q n n, .int .i64 eE]) ∧ w'.ownsRow w1.heap.size 2 1 (.slice q n n) n (timesV n ff) ∧ Below w1.heap.size w1 w') := fun w1 h1 => by
    rw [hff, heE]; exact tunpack_all vI bs z w1 (isBy_below hI h1) hb (by omega) n hn
  have HU2 : Hid (∀ w1, Below w.heap.size w w1 → Calls Tryz.prog 24 #[vB, .int .i64 z] w1 fun e w' => ∃ q cap, e = .returned (.tuple #[.slice q n cap, .int .i64 eE]) ∧ w'.ownsRow w1.heap.size 2 1 (.slice q n cap) n (timesV n ff) ∧ Below w1.heap.size w1 w') := fun w1 h1 => by
    rw [hff, heE]; exact runpack_row vB bs z w1 (isBy_below hV h1) hb hl n hn
  have HB := hideB h
  clear h hI hV hb hl hn hff heE
  go_enter Tryz.func7, Tryz.ntmps7
  go_wp2_with fail
  refine (HU1.out w (Below.refl _ _)).mono ?_
  rintro _ w1 ⟨px, rfl, ox1, B1⟩
  have H1 : Hid (w1.ownsRow w.heap.size 2 1 (.slice px n n) n (timesV n ff) ∧ Below w.heap.size w w1) := ⟨ox1, B1⟩
  clear ox1 B1
  go_wp2_with fail
  refine (HU1.out w1 H1.out.2).mono ?_
  rintro _ w2 ⟨py, rfl, oy2, B2⟩
  have H2 : Hid (w2.ownsRow w1.heap.size 2 1 (.slice py n n) n (timesV n ff) ∧ Below w1.heap.size w1 w2 ∧ Below w.heap.size w w2) := ⟨oy2, B2, H1.out.2.trans (B2.mono H1.out.2.size)⟩
  clear oy2 B2
  go_wp2_with fail
  refine (HU2.out w2 H2.out.2.2).mono ?_
  rintro _ w3 ⟨pq, cq, rfl, oq3, B3⟩
  have z1 := H1.out.2.size
  have z2 := H2.out.2.1.size
  have z3 := B3.size
  have H3 : Hid (UnSt w NB NL base F T D U rg rw_ G w.heap.size w1.heap.size w2.heap.size n cq ff px py pq w3) := by
    have B13 : Below w.heap.size w w3 := H2.out.2.2.trans (B3.mono (by omega))
    refine ⟨HB.out.below B13, ownsRow_keep H1.out.1 (fun g hg => ?_), ownsRow_keep H2.out.1 (fun g hg => ?_), oq3, B13⟩
    · have hh := (H1.out.1.lt g hg).2
      rw [B3.block g (by omega), H2.out.2.1.block g hh]
    · have hh := (H2.out.1.lt g hg).2
      rw [B3.block g (by omega)]
  have hz2 : Hid ((∀ k, (Value.slice px n n).ownBlock = some k → w.heap.size ≤ k ∧ k < w1.heap.size) ∧ (∀ k, (Value.slice py n n).ownBlock = some k → w1.heap.size ≤ k ∧ k < w2.heap.size)) := ⟨fun k hk => H1.out.1.lt k hk, fun k hk => H2.out.1.lt k hk⟩
  have Hz : Hid (w.heap.size ≤ w1.heap.size ∧ w1.heap.size ≤ w2.heap.size ∧ w2.heap.size ≤ w3.heap.size) := ⟨z1, z2, z3⟩
  clear oq3 B3 H1 H2 HU1 HU2 z1 z2 z3
  go_wp2_with fail
  refine (num_any _ _).mono ?_
  rintro _ w3' ⟨rfl, hw3⟩
  have hw3 := hw3.symm
  subst hw3
  go_wp2_with fail
  refine (num_any _ _).mono ?_
  rintro _ w3' ⟨rfl, hw3⟩
  have hw3 := hw3.symm
  subst hw3
  have HS1 := hideB (same_any px pq n n n cq ff ff w3 (row_trow H3.out.2.1 (by have := Hz.out; omega)) (row_trow H3.out.2.2.2.1 (by have := Hz.out; omega)) (by omega) (by omega))
  go_wp2_with fail
  refine HS1.out.mono ?_
  rintro _ w4 ⟨v4, rfl, hv4, m4, hw4⟩
  obtain rfl : v4 = true := hv4.2 (by simp)
  have H4 : Hid (UnSt w NB NL base F T D U rg rw_ G w.heap.size w1.heap.size w2.heap.size n cq ff px py pq w4 ∧ w4.heap.size = w3.heap.size) := by rw [hw4]; exact ⟨H3.out.drewN m4, rfl⟩
  clear hw4 HS1 hv4
  have HS2 := hideB (same_any py pq n n n cq ff ff w4 (row_trow H4.out.1.2.2.1 (by have := Hz.out; have := H4.out.2; omega)) (row_trow H4.out.1.2.2.2.1 (by have := Hz.out; have := H4.out.2; omega)) (by omega) (by omega))
  go_wp2_with fail
  refine HS2.out.mono ?_
  rintro _ w5 ⟨v5, rfl, hv5, m5, hw5⟩
  obtain rfl : v5 = true := hv5.2 (by simp)
  have H5 : Hid (UnSt w NB NL base F T D U rg rw_ G w.heap.size w1.heap.size w2.heap.size n cq ff px py pq w5 ∧ w5.heap.size = w3.heap.size) := by rw [hw5]; exact ⟨H4.out.1.drewN m5, H4.out.2⟩
  clear hw5 HS2 hv5 H3 H4
  have hbase : base ≤ w.heap.size := HB.out.base_
  have HA1 := hideB (addT_any NB base (F kT.c).rb (F kT.c).ro (F kT.c).E (F kT.c).A T D U n px (timesV n ff) w5 (H5.out.1.1.book.st kT kT_in) H5.out.1.1.book.com (ownsRow_base H5.out.1.2.1 hbase) (by omega) (by omega) (by have := H5.out.1.1.cnt kT kT_in; omega) (by have := H5.out.2; have := Hz.out; omega) (fun e he g hg hh => by
    have h1 := HB.out.dbLt (.inl ⟨kT, kT_in, e, he, hh⟩)
    have h2 := (hz2.out.1 g hg).1
    omega))
  go_wp2_with fail
  refine HA1.out.mono ?_
  rintro _ w6 ⟨rfl, hP6⟩
  have nx : ∀ k, (Value.slice px n n).ownBlock = some k → ¬ DB LT F G k := fun k hk hh => by
    have h1 := HB.out.dbLt hh
    have h2 := (hz2.out.1 k hk).1
    omega
  obtain ⟨F1, U1, BL6, hd6, hr6, C6⟩ := H5.out.1.1.take LT_ok kB_in kT_in (by decide) (by omega) (ownsRow_base H5.out.1.2.1 hbase) (by omega) nx hP6
  have cut : ∀ {b' : Nat} {v : Value} {cap : Nat} {xs : List Value}, w5.ownsRow b' 2 1 v n xs → base ≤ b' → w1.heap.size ≤ b' → w6.ownsRow b' 2 1 v n xs := fun {b' v cap xs} hv hb1 hb2 => ownsRow_chg hv C6 (fun k hk hh => by
    have hge := (row_ge hv hk).1
    rcases hh with (hh | ⟨K, hK, hh⟩) | hh
    · have := (H5.out.1.1.book.st kT kT_in).le.2.1; omega
    · have s := H5.out.1.1.book.st K hK
      obtain ⟨vb, x1, x2, x3⟩ := s.rows
      obtain ⟨vo, y1, y2, y3⟩ := s.nums
      rcases hh with hh | hh
      · exact rows_ne hv x2 (LT_ok.el kT kT_in K hK) hk (x3.trans hh)
      · exact rows_ne hv y2 (by decide) hk (y3.trans hh)
    · have := hz2.out.1 k hh
      omega)
  have hzz := Hz.out
  have oy6 := cut (cap := n) H5.out.1.2.2.1 (by omega) (Nat.le_refl _)
  have oq6 := cut (cap := cq) H5.out.1.2.2.2.1 (by omega) (by omega)
  have z6 := C6.size
  have e5 := H5.out.2
  have HS3 := hideB (same_any py pq n n n cq ff ff w6 (row_trow oy6 (by omega)) (row_trow oq6 (by omega)) (by omega) (by omega))
  have H6 : Hid (BL LT w6 NB NL base F1 (T + 1) D U1 rg rw_ G ∧ w6.ownsRow w1.heap.size 2 1 (.slice py n n) n (timesV n ff) ∧ (∀ k, DB LT F1 G k → DB LT F G k ∨ (Value.slice px n n).ownBlock = some k) ∧ (∀ k, BkRows LT NB F1 k → BkRows LT NB F k ∨ w5.heap.size ≤ k) ∧ Chg (BkRows LT NB F) w w6) :=
    ⟨BL6, oy6, hd6, hr6, (Chg.below H5.out.1.2.2.2.2).trans (C6.mono fun k _ hk => by
      rcases hk with hk | hk
      · exact .inl hk
      · exact .inr (hz2.out.1 k hk).1)⟩
  have Hz6 : Hid (w3.heap.size ≤ w6.heap.size) := by show _ ≤ _; omega
  clear cut oy6 oq6 BL6 hd6 hr6 C6 HA1 hP6 nx z6
  go_wp2_with fail
  refine HS3.out.mono ?_
  rintro _ w7 ⟨v7, rfl, hv7, m7, hw7⟩
  obtain rfl : v7 = true := hv7.2 (by simp)
  have H7 : Hid (BL LT w7 NB NL base F1 (T + 1) D U1 rg rw_ G ∧ w7.ownsRow w1.heap.size 2 1 (.slice py n n) n (timesV n ff) ∧ Chg (BkRows LT NB F) w w7 ∧ w7.heap.size = w6.heap.size) := by
    rw [hw7]
    exact ⟨H6.out.1.below (below_drewN (Below.refl _ _) m7), H6.out.2.1, H6.out.2.2.2.2.trans' (Chg.drewN _ _), rfl⟩
  clear hw7 HS3 hv7
  have ny : ∀ k, (Value.slice py n n).ownBlock = some k → ¬ DB LT F1 G k := fun k hk hh => by
    have h2 := (hz2.out.2 k hk).1
    rcases H6.out.2.2.1 k hh with h3 | h3
    · have h1 := HB.out.dbLt h3
      omega
    · have := (hz2.out.1 k h3).2
      omega
  have HA2 := hideB (addT_any NB base (F1 kT.c).rb (F1 kT.c).ro (F1 kT.c).E (F1 kT.c).A (T + 1) D U1 n py (timesV n ff) w7 (H7.out.1.book.st kT kT_in) H7.out.1.book.com (ownsRow_base H7.out.2.1 (by omega)) (by omega) (by omega) (by have := H7.out.1.cnt kT kT_in; omega) (by have := H7.out.2.2.2; have := Hz6.out; omega) (fun e he g hg hh => ny g hg (.inl ⟨kT, kT_in, e, he, hh⟩)))
  have HF : Hid (∀ w8, AddPost kT w7 NB base (F1 kT.c).rb (F1 kT.c).ro (F1 kT.c).E (F1 kT.c).A (T + 1) D ⟨.slice py n n, n, T + 1 + 1⟩ w8 → ∃ F' U', BL LT w8 NB NL base F' (T + 2) D U' rg rw_ G ∧ (∀ k, FP LT NB NL F' rg rw_ G k → FP LT NB NL F rg rw_ G k ∨ w.heap.size ≤ k) ∧ Chg (BkRows LT NB F) w w8) := fun w8 h8 => by
    obtain ⟨F2, U2, B8, d8, r8, C8⟩ := H7.out.1.take LT_ok kB_in kT_in (by decide) (by omega) (ownsRow_base H7.out.2.1 (by omega)) (by omega) ny h8
    refine ⟨F2, U2, B8, fun k hk => ?_, H7.out.2.2.1.trans (C8.mono fun k _ hk => ?_)⟩
    · rcases hk with hk | hk | hk
      · rcases r8 k hk with hk | hk
        · rcases H6.out.2.2.2.1 k hk with hk | hk
          · exact .inl (.inl hk)
          · exact .inr (by omega)
        · exact .inr (by have := H7.out.2.2.2; have := Hz6.out; omega)
      · exact .inl (.inr (.inl hk))
      · rcases d8 k hk with hk | hk
        · rcases H6.out.2.2.1 k hk with hk | hk
          · exact .inl (.inr (.inr hk))
          · exact .inr (hz2.out.1 k hk).1
        · exact .inr (by have := (hz2.out.2 k hk).1; omega)
    rcases hk with hk | hk
    · rcases H6.out.2.2.2.1 k hk with hk | hk
      · exact .inl hk
      · exact .inr (by omega)
    · exact .inr (by have := (hz2.out.2 k hk).1; omega)
  clear H7 H6 ny H5 HB
  go_wp2_with fail
  refine HA2.out.mono ?_
  rintro _ w8 ⟨rfl, hP8⟩
  have HQ := hideB (HF.out w8 hP8)
  clear HF HA2 hP8
  go_wp2_with fail
  go_ret
  exact ⟨rfl, HQ.out⟩

end Go.Proofs.YtangjkhflgkkdaaGreat

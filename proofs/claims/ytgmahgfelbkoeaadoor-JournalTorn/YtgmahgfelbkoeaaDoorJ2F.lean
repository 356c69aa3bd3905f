/- A disk as plain data; what a log does with it. -/
import Derived.Test.YtgmahgfelbkoeaaDoorJ2D
/- Whether rows may be a record; its bytes. -/
namespace Go.Proofs.YtgmahgfelbkoeaaDoor
open Go.RowKit
set_option linter.unusedVariables false
set_option linter.unusedSimpArgs false

/-- The body of the first k rows. -/
def bodyP (q : Nat → List Nat) : Nat → List Nat
  | 0 => []
  | k + 1 => bodyP q k ++ four (q k).length ++ q k

theorem bodyP_le (q : Nat → List Nat) (k m : Nat) (h : k ≤ m) : (bodyP q k).length ≤ (bodyP q m).length := by
  induction m with
  | zero => rw [show k = 0 from by omega]; exact Nat.le_refl _
  | succ m ih =>
    by_cases e : k = m + 1
    · rw [e]; exact Nat.le_refl _
    · have := ih (by omega); rw [bodyP, List.length_append, List.length_append]; omega

theorem bodyP_lt {q : Nat → List Nat} {m : Nat} (h : ∀ i, i < m → ∀ n ∈ q i, n < 256) : ∀ k, k ≤ m → ∀ n ∈ bodyP q k, n < 256 := by
  intro k
  induction k with
  | zero => intro _ n hn; simp [bodyP] at hn
  | succ k ih =>
    intro hk n hn
    rw [bodyP, List.mem_append, List.mem_append] at hn
    rcases hn with (hn | hn) | hn
    · exact ih (by omega) n hn
    · exact four_lt _ n hn
    · exact h k (by omega) n hn

theorem parts_three {w : World} {g : Nat} {v0 v1 v2 : Value} {a b c : List Nat} (h : w.heap[g]? = some (.cells #[v0, v1, v2] 38 (0, 0))) (h0 : IsBy w v0 a) (h1 : IsBy w v1 b) (h2 : IsBy w v2 c) : PartsOf w (some ⟨g, 0, none⟩) 3 (fun i => if i = 0 then a else if i = 1 then b else c) := fun i hi => by
  match i, hi with
  | 0, _ => exact ⟨g, 0, v0, rfl, by rw [cell_of_row w g _ _ _ (0, 0) h]; rfl, h0⟩
  | 1, _ => exact ⟨g, 0, v1, rfl, by rw [cell_of_row w g _ _ _ (0, 0) h]; rfl, h1⟩
  | 2, _ => exact ⟨g, 0, v2, rfl, by rw [cell_of_row w g _ _ _ (0, 0) h]; rfl, h2⟩

theorem ownsRow_low {w : World} {B C : Nat} {t : TypeId} {size : Nat} {v : Value} {n : Nat} {xs : List Value} (h : w.ownsRow B t size v n xs) (hc : C ≤ B) : w.ownsRow C t size v n xs := by
  refine ⟨h.1, ?_⟩
  rcases h.2 with e | ⟨g, cap, cur, e1, e2, e3⟩
  · exact .inl e
  · exact .inr ⟨g, cap, cur, e1, Nat.le_trans hc e2, e3⟩

def recP (q : Nat → List Nat) (m : Nat) : List Nat := four (bodyP q m).length ++ four (crcO (four (bodyP q m).length ++ bodyP q m)) ++ bodyP q m

theorem crcO_lt (bs : List Nat) : crcO bs < 4294967296 := by unfold crcO; omega

set_option maxRecDepth 100000 in
theorem fits_rows (p : Option Addr) (m cap : Nat) (q : Nat → List Nat) (w : World) (h : PartsOf w p m q) (hm : m ≤ 100000000) (hl : (bodyP q m).length ≤ 1000000000) :
    Calls Tryd.prog 22 #[.slice p m cap] w fun e w' => e = .returned (.bool (decide (m ≤ 4096 ∧ (bodyP q m).length ≤ 4194304))) ∧ w' = w := by
  have H := hide h
  obtain ⟨N, hN⟩ : ∃ N, (bodyP q m).length = N := ⟨_, rfl⟩
  have HN := hide hN
  rw [hN] at hl ⊢
  clear h hN
  go_enter Tryd.func22, Tryd.ntmps22
  go_wp2_with fail
  go_loopw [3, 8] (fun t3 t8 wr => ∃ k s : Nat, t8 = .int .i64 (k : Int) ∧ t3 = .int .i64 (s : Int) ∧ wr = w ∧ Hid (k ≤ m ∧ s = (bodyP q k).length)) (fun _ t8 _ => m - (intOf t8).toNat)
  case atStart => exact ⟨0, 0, rfl, rfl, rfl, Nat.zero_le _, rfl⟩
  case round =>
    obtain ⟨k, s, rfl, rfl, rfl, hI⟩ := hrel
    by_cases hlt : k < m
    · obtain ⟨b, o, v, rfl, c1, hv⟩ := H.out k hlt
      obtain ⟨pv, cv, rfl, _⟩ := by_slice hv
      have hs1 : s + 4 + (q k).length ≤ N := by
        have := bodyP_le q (k + 1) m (by omega)
        rw [bodyP, List.length_append, List.length_append, HN.out, ← hI.out.2] at this; simp [four] at this; omega
      have HNX : Hid (s + (4 + (q k).length) = (bodyP q (k + 1)).length) := by rw [bodyP, List.length_append, List.length_append, ← hI.out.2]; simp [four]; show _ = _; omega
      obtain ⟨L, hL⟩ : ∃ L, (q k).length = L := ⟨_, rfl⟩
      rw [hL] at c1 hs1 HNX
      clear hL hv hI
      go_wp2_with fail
      go_roundw
      case rel => exact ⟨k + 1, s + (4 + L), by simp, by simp, by trivial, hlt, HNX.out⟩
      case measure => simp [intOf]; omega
    · have hk : k = m := by have := hI.out.1; omega
      have hs : s = N := by rw [hI.out.2, hk, HN.out]
      subst hs
      clear hI
      by_cases h1 : m ≤ 4096
      · have h1' : (m : Int) ≤ 4096 := by omega
        by_cases h2 : s ≤ 4194304
        · have h2' : (s : Int) ≤ 4194304 := by omega
          go_wp2_with fail
          go_ret
          exact ⟨by simp [h1, h2], rfl⟩
        · have h2' : ¬ (s : Int) ≤ 4194304 := by omega
          go_wp2_with fail
          go_ret
          exact ⟨by simp [h1, h2], rfl⟩
      · have h1' : ¬ (m : Int) ≤ 4096 := by omega
        go_wp2_with fail
        go_ret
        exact ⟨by simp [h1], rfl⟩

set_option maxRecDepth 100000 in
set_option maxHeartbeats 1000000 in
theorem record_any (p : Option Addr) (m cap : Nat) (q : Nat → List Nat) (w : World) (h : PartsOf w p m q) (hq : ∀ i, i < m → ∀ n ∈ q i, n < 256) (hm : m ≤ 4096) (hl : (bodyP q m).length ≤ 4194304) (hT : TabC w) :
    Calls Tryd.prog 23 #[.slice p m cap] w fun e w' => ∃ v, e = .returned v ∧ OB w.heap.size w (recP q m) v w' := by
  obtain ⟨i5, hi5⟩ := info5
  have Hi := hide hi5
  have H := hide h
  have HQ := hide hq
  have HT := hide hT
  obtain ⟨N, hN⟩ : ∃ N, (bodyP q m).length = N := ⟨_, rfl⟩
  have HN := hide hN
  rw [hN] at hl
  clear h hN hi5 hq hT
  go_enter Tryd.func23, Tryd.ntmps23
  go_wp2_with fail
  go_loopw [3, 9] (fun t3 t9 wq => ∃ k : Nat, t9 = .int .i64 (k : Int) ∧ Hid (k ≤ m ∧ OB w.heap.size w (bodyP q k) t3 wq)) (fun _ t9 _ => m - (intOf t9).toNat)
  case atStart => exact ⟨0, rfl, Nat.zero_le _, OB.nil w⟩
  case round =>
    obtain ⟨k, rfl, hJ⟩ := hrel
    obtain ⟨p3, c3, h3⟩ := hJ.out.2.slice
    subst h3
    have HO3 := hide hJ.out.2.own
    have HJ := hide hJ.out.2
    have HB : Hid (w.heap.size ≤ wr.heap.size) := HJ.out.bel.size
    obtain ⟨n3, hn3⟩ : ∃ n3, (bodyP q k).length = n3 := ⟨_, rfl⟩
    have Hn3 := hide hn3
    rw [hn3] at HO3 ⊢
    have hn3l : n3 ≤ N := by rw [← hn3, ← HN.out]; exact bodyP_le q k m hJ.out.1
    by_cases hlt : k < m
    · obtain ⟨b, o, v, rfl, c1, hv⟩ := H.out k hlt
      have hblt := World.block_lt_of_cell? _ _ c1
      have c2 : wr.cell? ⟨b, o + k, none⟩ = some v := by rw [HJ.out.bel.cell (p := ⟨b, o + k, none⟩) hblt]; exact c1
      have HV := hide hv
      have hsz : (bodyP q (k + 1)).length ≤ N := by rw [← HN.out]; exact bodyP_le q (k + 1) m hlt
      obtain ⟨pv, cv, rfl, _⟩ := by_slice hv
      obtain ⟨L, hL⟩ : ∃ L, (q k).length = L := ⟨_, rfl⟩
      have HL := hide hL
      rw [bodyP, List.length_append, List.length_append, hn3, hL] at hsz
      rw [hL] at c2 HV
      have hsz2 : n3 + 4 + L ≤ N := by simpa [four] using hsz
      have hLl : L < 4294967296 := by omega
      have hw32 : IntKind.u32.wrap (L : Int) = (L : Int) := by rw [IntKind.wrap_u32]; omega
      obtain ⟨n6, hn6⟩ : ∃ n6, (bodyP q k ++ four L).length = n6 := ⟨_, rfl⟩
      have Hn6 := hide hn6
      have hn6l : n6 + L ≤ N := by rw [← hn6, List.length_append, hn3]; simp [four]; omega
      clear hv hJ hn3 hsz hn6 hL
      go_wp2_with fail
      refine (laid_any (B := w.heap.size) _ (.slice p3 n3 c3) (bodyP q k) L (by rw [Hn3.out]; exact HO3.out) HB.out hLl (by rw [Hn3.out]; omega)).mono ?_
      rintro e w1 ⟨v1, rfl, ho1, hg1, hat1⟩
      have H1 : Hid (OB w.heap.size w (bodyP q k ++ four L) v1 w1) := HJ.out.more (cs := four L) (v2 := v1) (by rw [← bytesV_app, ← List.length_append]; exact ho1) (by rw [Hn3.out]; exact hg1)
      clear ho1 hg1 hat1
      obtain ⟨p6, c6, h6⟩ := H1.out.slice
      subst h6
      have HO6 := hide H1.out.own
      rw [Hn6.out] at HO6
      rw [Hn6.out]
      have hv1 := isBy_below HV.out H1.out.bel
      have HB1 : Hid (w.heap.size ≤ w1.heap.size) := H1.out.bel.size
      rcases by_news hv1 with ⟨hnl, hq0⟩ | ⟨ad, capk, hsl, hnews⟩
      · obtain ⟨rfl, rfl, rfl⟩ : pv = none ∧ L = 0 ∧ cv = 0 := by simpa using hnl
        have HR : Hid (OB w.heap.size w (bodyP q (k + 1)) (.slice p6 n6 c6) w1) := by have := H1.out; rw [Hn6.out] at this; rw [bodyP, HL.out, hq0, List.append_nil]; exact this
        clear hv1 hq0 HV hnl
        go_wp2_with (at_builtin; refine wpList_append_own_none rfl _ _ _ rfl w.heap.size 5 i5 1 Tryd.underlying38 Hi.out.1 (.slice p6 n6 c6) n6 (bytesV (bodyP q k ++ four 0)) rfl HO6.out rfl ?g6)
        go_roundw
        case rel => exact ⟨k + 1, by simp, hlt, HR.out⟩
        case measure => simp [intOf]; omega
      · obtain ⟨rfl, nk, hnk, rfl⟩ : pv = some ad ∧ ∃ nk, nk = L ∧ cv = capk := by simp at hsl; exact ⟨hsl.1, L, rfl, hsl.2.2⟩
        subst hnk
        have HNW := hide hnews
        clear hv1 hnews hsl HV
        go_wp2_with (at_builtin; refine wpList_append_own_at _ rfl _ _ _ rfl w.heap.size 5 i5 (.int .u8 0) 1 1 Tryd.underlying38 Hi.out.1 Hi.out.2.1 Hi.out.2.2.1 Hi.out.2.2.2 rfl (by decide) (.slice p6 n6 c6) n6 (bytesV (bodyP q k ++ four nk)) rfl HO6.out ad nk cv (bytesV (q k)) rfl ?f2 ?f3 (bytesV_cell (q k)) ?f4 ?f5 ?f7 ?f6)
        case f2 => first | exact HL.out | (rw [Nat.mul_one, ← HL.out]; simp)
        case f3 => exact HNW.out
        case f4 => unfold maxLen; omega
        case f5 => omega
        case f7 => exact HB1.out
        case f6 =>
          intro v2 w2 ho2 hg2 _ hat
          have HR : Hid (OB w.heap.size w (bodyP q (k + 1)) v2 w2) := by
            rw [bodyP, HL.out]
            exact H1.out.more (cs := q k) (by rw [Hn6.out, HL.out]; exact ho2) (by rw [Hn6.out]; exact hg2)
          clear ho2 hg2 hat
          go_wp2_with fail
          go_roundw
          case rel => exact ⟨k + 1, by simp, hlt, HR.out⟩
          case measure => simp [intOf]; omega
    · have hkm : k = m := by have := hJ.out.1; omega
      subst hkm
      obtain rfl : n3 = N := by rw [← hn3, ← HN.out]
      have hw32 : IntKind.u32.wrap (n3 : Int) = (n3 : Int) := by rw [IntKind.wrap_u32]; omega
      have HBD : Hid (∀ n ∈ bodyP q k, n < 256) := bodyP_lt HQ.out k (Nat.le_refl _)
      clear hJ hn3
      go_wp2_with fail
      refine (laid_any (B := wr.heap.size) _ (.slice none 0 0) [] n3 (World.ownsRow_nil _ _ _ _) (Nat.le_refl _) (by omega) (by simp)).mono ?_
      rintro e w1 ⟨v1, rfl, ho1, hg1, hat1⟩
      have H1 : Hid (OB wr.heap.size wr (four n3) v1 w1) := ⟨ho1, grown_below hg1 (fun g hg => by simp [Value.ownBlock] at hg) (Nat.le_refl _), Nat.le_refl _⟩
      obtain ⟨p6, c6, h6⟩ := H1.out.slice
      subst h6
      clear ho1 hg1 hat1
      have HW1 : Hid (IsBy w1 (.slice p3 n3 c3) (bodyP q k) ∧ IsBy w1 (.slice p6 (four n3).length c6) (four n3) ∧ Below w.heap.size w w1 ∧ TabC w1) := by
        have hb := HJ.out.by_
        rw [Hn3.out] at hb
        have hbel := HJ.out.bel.trans (H1.out.bel.mono HB.out)
        exact ⟨isBy_below hb H1.out.bel, H1.out.by_, hbel, HT.out.below hbel⟩
      obtain ⟨n4, hn4⟩ : ∃ n4, (four n3).length = n4 := ⟨_, rfl⟩
      rw [hn4] at HW1 ⊢
      go_wp2_with fail
      refine (sumOf_any _ _ (four n3) (bodyP q k) w1 HW1.out.2.1 HW1.out.1 (four_lt n3) HBD.out (by rw [Hn3.out]; simp [four]; omega) HW1.out.2.2.2).mono ?_
      rintro e w2 ⟨rfl, hB2⟩
      have HW2 : Hid (IsBy w2 (.slice p3 n3 c3) (bodyP q k) ∧ IsBy w2 (.slice p6 n4 c6) (four n3) ∧ Below w.heap.size w w2) := ⟨isBy_below HW1.out.1 hB2, isBy_below HW1.out.2.1 hB2, HW1.out.2.2.1.trans (hB2.mono HW1.out.2.2.1.size)⟩
      have hcl := crcO_lt (four n3 ++ bodyP q k)
      have HRP : Hid (recP q k = four n3 ++ four (crcO (four n3 ++ bodyP q k)) ++ bodyP q k) := by unfold recP; rw [Hn3.out]; rfl
      obtain ⟨cr, hcr⟩ : ∃ cr, crcO (four n3 ++ bodyP q k) = cr := ⟨_, rfl⟩
      rw [hcr] at hcl HRP ⊢
      clear hB2 hcr
      go_wp2_with fail
      refine (laid_any (B := w2.heap.size) _ (.slice none 0 0) [] cr (World.ownsRow_nil _ _ _ _) (Nat.le_refl _) hcl (by simp)).mono ?_
      rintro e w3 ⟨v3, rfl, ho3, hg3, hat3⟩
      have H3 : Hid (OB w2.heap.size w2 (four cr) v3 w3) := ⟨ho3, grown_below hg3 (fun g hg => by simp [Value.ownBlock] at hg) (Nat.le_refl _), Nat.le_refl _⟩
      obtain ⟨p7, c7, h7⟩ := H3.out.slice
      subst h7
      clear ho3 hg3 hat3
      have hba : Below w3.heap.size w3 (w3.alloc (.cells #[.slice p6 n4 c6, .slice p7 (four cr).length c7, .slice p3 n3 c3] 38)) := (Below.refl _ _).alloc (Nat.le_refl _) _
      have HW3 : Hid (IsBy w3 (.slice p3 n3 c3) (bodyP q k) ∧ IsBy w3 (.slice p6 n4 c6) (four n3) ∧ IsBy w3 (.slice p7 (four cr).length c7) (four cr) ∧ Below w.heap.size w w3) := ⟨isBy_below HW2.out.1 H3.out.bel, isBy_below HW2.out.2.1 H3.out.bel, H3.out.by_, HW2.out.2.2.trans (H3.out.bel.mono HW2.out.2.2.size)⟩
      have hcat : catP (fun i => if i = 0 then four n3 else if i = 1 then four cr else bodyP q k) 3 = recP q k := by rw [HRP.out]; simp [catP]
      have HC : Hid (Calls Tryd.prog 40 #[.slice (some ⟨w3.heap.size, 0, none⟩) 3 3] (w3.alloc (.cells #[.slice p6 n4 c6, .slice p7 (four cr).length c7, .slice p3 n3 c3] 38)) fun e w' => ∃ v, e = .returned v ∧ OB w.heap.size w (recP q k) v w') := by
        refine (concat_any (some ⟨w3.heap.size, 0, none⟩) 3 3 _ _ (parts_three (heap_alloc_new w3 _) (isBy_below HW3.out.2.1 hba) (isBy_below HW3.out.2.2.1 hba) (isBy_below HW3.out.1 hba)) (by decide) (by rw [hcat, HRP.out, List.length_append, List.length_append, Hn3.out]; simp [four]; omega)).mono ?_
        rintro e w4 ⟨v4, rfl, hO4⟩
        rw [hcat] at hO4
        have hle : w.heap.size ≤ (w3.alloc (.cells #[.slice p6 n4 c6, .slice p7 (four cr).length c7, .slice p3 n3 c3] 38)).heap.size := Nat.le_trans HW3.out.2.2.2.size hba.size
        exact ⟨v4, rfl, ⟨ownsRow_low hO4.own hle, (HW3.out.2.2.2.trans (hba.mono HW3.out.2.2.2.size)).trans (hO4.bel.mono hle), Nat.le_refl _⟩⟩
      clear hba hcat
      obtain ⟨n5, hn5⟩ : ∃ n5, (four cr).length = n5 := ⟨_, rfl⟩
      rw [hn5] at HC ⊢
      clear hn5 hn4
      go_wp2_with (go_at_call 40; refine HC.out.mono ?_; rintro e w4 ⟨v4, rfl, hO4⟩; have HO4 := hide hO4; clear hO4)
      go_ret
      exact ⟨_, rfl, HO4.out⟩

end Go.Proofs.YtgmahgfelbkoeaaDoor

namespace Go.Proofs.YtgmahgfelbkoeaaDoor
open Go.RowKit
set_option linter.unusedVariables false
set_option linter.unusedSimpArgs false

/-- A disk, as plain data and the blocks that are its own. -/
def Di (B : Nat) (w : World) (d : Nat) (p : PS) (F : Nat → Prop) : Prop := ∃ S : DS, S.d = d ∧ S.ps = p ∧ F = Fp S ∧ Dk B w 0 S

theorem Di.lt {B : Nat} {w : World} {d : Nat} {p : PS} {F : Nat → Prop} (h : Di B w d p F) : ∀ k, F k → k < w.heap.size := by
  obtain ⟨S, _, _, rfl, h⟩ := h; exact h.fpLt
theorem Di.ge {B : Nat} {w : World} {d : Nat} {p : PS} {F : Nat → Prop} (h : Di B w d p F) : ∀ k, F k → B ≤ k := by
  obtain ⟨S, _, _, rfl, h⟩ := h; exact h.fpB
theorem Di.keep {B : Nat} {w w' : World} {d : Nat} {p : PS} {F : Nat → Prop} (h : Di B w d p F) (hk : ∀ k, F k → w'.heap[k]? = w.heap[k]?) : Di B w' d p F := by
  obtain ⟨S, h1, h2, rfl, h⟩ := h; exact ⟨S, h1, h2, rfl, h.keep hk⟩
theorem Di.below {B : Nat} {w w' : World} {d : Nat} {p : PS} {F : Nat → Prop} (h : Di B w d p F) (hb : Below w.heap.size w w') : Di B w' d p F := h.keep fun k hk => hb.block k (h.lt k hk)
theorem Di.drew {B : Nat} {w : World} {d : Nat} {p : PS} {F : Nat → Prop} (h : Di B w d p F) : Di B w.drew d p F := h.keep fun _ _ => rfl
theorem Di.rm {B : Nat} {w : World} {d : Nat} {p : PS} {F : Nat → Prop} (h : Di B w d p F) : Con.tot p.con ≤ p.room ∧ p.room ≤ 268435456 ∧ (p.con.map (·.1)).Nodup := by
  obtain ⟨S, _, rfl, _, h⟩ := h; have := h.rm; rw [tot_con] at this; exact ⟨this.1, this.2, con_nodup h⟩

theorem fi_of {S : DS} {nm : ByteArray} {bs : List Nat} {su : Nat} (h : (nm, bs, su) ∈ S.ps.con) : ∃ x ∈ S.L, x.nm = nm ∧ x.bs = bs ∧ x.su = su := by
  obtain ⟨x, hx, e⟩ := List.mem_map.1 h
  simp [Fi.con] at e
  exact ⟨x, hx, e.1, e.2.1, e.2.2⟩

theorem di_append {B : Nat} {d : Nat} {p : PS} {F : Nat → Prop} (w : World) (h : Di B w d p F) (hoff : p.off = false) (harm : p.ain = 0) (hwr : p.wr ≤ 1000000000) (nm : ByteArray) (hs : okN nm) (hc : p.con.has nm ∨ ((∀ y ∈ p.con, y.1 ≠ nm) ∧ p.con.length < 256)) (q : Option Addr) (n cb : Nat) (bs : List Nat) (hnb : n = bs.length) (hnc : n ≤ cb) (hp : q = none → cb = 0) (hb : IsBy w (.slice q n cb) bs) (hfb : ∀ k, (Value.slice q n cb).ownBlock = some k → ¬ F k) (hbb : ∀ n ∈ bs, n < 256) (hr : Con.tot p.con + bs.length ≤ p.room) :
    Calls Tryd.prog 42 #[.pointer (some ⟨d, 0, none⟩), .string nm, .slice q n cb] w fun e w' => e = .returned (.int .i64 0) ∧ ∃ F', Di B w' d { p with con := Con.app p.con nm bs, wr := p.wr + 1 } F' ∧ Fr w F w' F' := by
  obtain ⟨S, rfl, rfl, rfl, h⟩ := h
  have hc' : (∃ x ∈ S.L, x.nm = nm) ∨ ((∀ x ∈ S.L, x.nm ≠ nm) ∧ S.L.length < 256) := by
    rcases hc with ⟨y, hy, e⟩ | ⟨h1, h2⟩
    · obtain ⟨x, hx, rfl⟩ := List.mem_map.1 hy
      exact .inl ⟨x, hx, e⟩
    · exact .inr ⟨fun x hx => h1 _ (con_mem hx), by simpa [DS.ps] using h2⟩
  refine (append_ok w h hoff harm hwr nm hs hc' q n cb bs hnb hnc hp hb hfb hbb (by rw [tot_con]; exact hr)).mono ?_
  rintro e w' ⟨rfl, S', e1, e2, e3, e4⟩
  exact ⟨rfl, Fp S', ⟨S', e1, e2, rfl, e3⟩, e4⟩

theorem di_sync {B : Nat} {d : Nat} {p : PS} {F : Nat → Prop} (w : World) (h : Di B w d p F) (hoff : p.off = false) (harm : p.ain = 0) (hwr : p.wr ≤ 1000000000) (nm : ByteArray) (hs : okN nm) (hc : p.con.has nm) :
    Calls Tryd.prog 43 #[.pointer (some ⟨d, 0, none⟩), .string nm] w fun e w' => e = .returned (.int .i64 0) ∧ ∃ F', Di B w' d { p with con := Con.upd p.con nm (fun q => (q.1, q.1.length)), wr := p.wr + 1 } F' ∧ Fr w F w' F' := by
  obtain ⟨S, rfl, rfl, rfl, h⟩ := h
  obtain ⟨y, hy, rfl⟩ := hc
  obtain ⟨x, hx, rfl⟩ := List.mem_map.1 hy
  refine (sync_ok w h hoff harm hwr x hx hs).mono ?_
  rintro e w' ⟨rfl, S', e1, e2, e3, e4⟩
  exact ⟨rfl, Fp S', ⟨S', e1, e2, rfl, e3⟩, e4⟩

theorem di_cut {B : Nat} {d : Nat} {p : PS} {F : Nat → Prop} (w : World) (h : Di B w d p F) (hoff : p.off = false) (harm : p.ain = 0) (hwr : p.wr ≤ 1000000000) (nm : ByteArray) (hs : okN nm) (bs : List Nat) (su : Nat) (hc : (nm, bs, su) ∈ p.con) (n : Nat) (hn : n ≤ bs.length) :
    Calls Tryd.prog 28 #[.pointer (some ⟨d, 0, none⟩), .string nm, .int .i64 (n : Int)] w fun e w' => e = .returned (.int .i64 0) ∧ ∃ F', Di B w' d { p with con := Con.upd p.con nm (fun q => (q.1.take n, min q.2 n)), wr := p.wr + 1 } F' ∧ Fr w F w' F' := by
  obtain ⟨S, rfl, rfl, rfl, h⟩ := h
  obtain ⟨x, hx, rfl, rfl, rfl⟩ := fi_of hc
  refine (cut_ok w h hoff harm hwr x hx hs n hn).mono ?_
  rintro e w' ⟨rfl, S', e1, e2, e3, e4⟩
  exact ⟨rfl, Fp S', ⟨S', e1, e2, rfl, e3⟩, e4⟩

theorem di_read {B : Nat} {d : Nat} {p : PS} {F : Nat → Prop} (w : World) (h : Di B w d p F) (hoff : p.off = false) (nm : ByteArray) (hs : okN nm) (bs : List Nat) (su : Nat) (hc : (nm, bs, su) ∈ p.con) :
    Calls Tryd.prog 34 #[.pointer (some ⟨d, 0, none⟩), .string nm] w fun e w' => ∃ v2, e = .returned (.tuple #[v2, .int .i64 0]) ∧ (Di B w' d p F ∧ Fr w F w' F) ∧ w'.ownsRow w.heap.size 5 1 v2 bs.length (bytesV bs) ∧ (∀ k, v2.ownBlock = some k → ¬ F k) ∧ ∀ n ∈ bs, n < 256 := by
  obtain ⟨S, rfl, rfl, rfl, h⟩ := h
  obtain ⟨x, hx, rfl, rfl, rfl⟩ := fi_of hc
  refine (read_any w h hoff x hx hs).mono ?_
  rintro e w' ⟨v2, rfl, ⟨e1, e2⟩, e3, e4⟩
  exact ⟨v2, rfl, ⟨⟨S, rfl, rfl, rfl, e1⟩, e2⟩, e3, e4, h.by_ x hx⟩

theorem di_read_no {B : Nat} {d : Nat} {p : PS} {F : Nat → Prop} (w : World) (h : Di B w d p F) (hoff : p.off = false) (nm : ByteArray) (hs : okN nm) (hc : ∀ y ∈ p.con, y.1 ≠ nm) :
    Calls Tryd.prog 34 #[.pointer (some ⟨d, 0, none⟩), .string nm] w fun e w' => e = .returned (.tuple #[.slice none 0 0, .int .i64 102]) ∧ Di B w' d p F ∧ Fr w F w' F := by
  obtain ⟨S, rfl, rfl, rfl, h⟩ := h
  refine (read_no w h hoff nm (fun x hx => hc _ (con_mem hx)) hs).mono ?_
  rintro e w' ⟨rfl, e1, e2⟩
  exact ⟨rfl, ⟨S, rfl, rfl, rfl, e1⟩, e2⟩

theorem di_sure {B : Nat} {d : Nat} {p : PS} {F : Nat → Prop} (w : World) (h : Di B w d p F) (hoff : p.off = false) (nm : ByteArray) (hs : okN nm) (bs : List Nat) (su : Nat) (hc : (nm, bs, su) ∈ p.con) :
    Calls Tryd.prog 17 #[.pointer (some ⟨d, 0, none⟩), .string nm] w fun e w' => e = .returned (.tuple #[.int .i64 (su : Int), .int .i64 0]) ∧ Di B w' d p F ∧ Fr w F w' F := by
  obtain ⟨S, rfl, rfl, rfl, h⟩ := h
  obtain ⟨x, hx, rfl, rfl, rfl⟩ := fi_of hc
  refine (sure_any w h hoff x hx hs).mono ?_
  rintro e w' ⟨rfl, e1, e2⟩
  exact ⟨rfl, ⟨S, rfl, rfl, rfl, e1⟩, e2⟩

theorem di_new (w : World) (B : Nat) (hB : B ≤ w.heap.size) (room : Nat) (h1 : 1 ≤ room) (h2 : room ≤ 268435456) :
    Calls Tryd.prog 4 #[.int .i64 (room : Int)] w fun e w' => ∃ d F, e = .returned (.tuple #[.pointer (some ⟨d, 0, none⟩), .int .i64 0]) ∧ Di B w' d { con := [], room := room, off := false, ain := 0, keep := 0, lose := 0, wr := 0 } F ∧ Below w.heap.size w w' ∧ ∀ k, F k → w.heap.size ≤ k := by
  refine (new_ok w B hB room h1 h2).mono ?_
  rintro e w' ⟨S, rfl, e1, e2, e3, e4⟩
  exact ⟨S.d, Fp S, rfl, ⟨S, rfl, e2, rfl, e1⟩, e3, e4⟩

/-- A log that is on. -/
def Lg (w : World) (l d : Nat) (nm : ByteArray) (sz ct : Nat) : Prop := w.heap[l]? = some (.cells #[.pointer (some ⟨d, 0, none⟩), .string nm, .int .i64 (sz : Int), .int .i64 (ct : Int), .bool false] 64 (0, 0))

theorem Lg.cell {w : World} {l d : Nat} {nm : ByteArray} {sz ct : Nat} (h : Lg w l d nm sz ct) (i : Nat) (v : Value) (hi : (#[.pointer (some ⟨d, 0, none⟩), .string nm, .int .i64 (sz : Int), .int .i64 (ct : Int), .bool false] : Array Value)[i]? = some v) : w.cell? ⟨l, i, none⟩ = some v := by
  rw [cell_of_row w l i _ _ (0, 0) h]; exact hi

theorem Lg.fr {w w' : World} {F F' : Nat → Prop} {l d : Nat} {nm : ByteArray} {sz ct : Nat} (h : Lg w l d nm sz ct) (hf : Fr w F w' F') (hn : ¬ F l) : Lg w' l d nm sz ct := (hf.block l (heap_lt h) hn).2.trans h

/-- Bytes laid behind a file and made sure. -/
def Con.lay (c : Con) (nm : ByteArray) (bs : List Nat) : Con := Con.upd (Con.app c nm bs) nm fun q => (q.1, q.1.length)

theorem Con.app_has (c : Con) (nm : ByteArray) (bs : List Nat) : (Con.app c nm bs).has nm := by
  unfold Con.app
  split
  · rename_i h
    obtain ⟨y, hy, h2⟩ := List.any_eq_true.1 h
    exact ⟨_, List.mem_map.2 ⟨y, hy, rfl⟩, by rw [if_pos (by simpa using h2)]; simpa using h2⟩
  · exact ⟨_, List.mem_append.2 (.inr (List.mem_singleton.2 rfl)), rfl⟩

set_option maxRecDepth 100000 in
set_option maxHeartbeats 1000000 in
theorem llay_ok {B : Nat} {l d : Nat} {p : PS} {F : Nat → Prop} {nm : ByteArray} {sz ct : Nat} (w : World) (h : Di B w d p F) (hg : Lg w l d nm sz ct) (hl : ¬ F l) (hoff : p.off = false) (harm : p.ain = 0) (hwr : p.wr ≤ 999999999) (hs : okN nm) (hc : p.con.has nm ∨ ((∀ y ∈ p.con, y.1 ≠ nm) ∧ p.con.length < 256)) (q : Option Addr) (n cb : Nat) (bs : List Nat) (hnb : n = bs.length) (hnc : n ≤ cb) (hp : q = none → cb = 0) (hb : IsBy w (.slice q n cb) bs) (hfb : ∀ k, (Value.slice q n cb).ownBlock = some k → ¬ F k) (hbb : ∀ n ∈ bs, n < 256) (hr : Con.tot p.con + bs.length ≤ p.room) :
    Calls Tryd.prog 24 #[.pointer (some ⟨l, 0, none⟩), .slice q n cb] w fun e w' => e = .returned (.int .i64 0) ∧ ∃ F', Di B w' d { p with con := Con.lay p.con nm bs, wr := p.wr + 2 } F' ∧ Fr w F w' F' := by
  have HA : Hid (Calls Tryd.prog 42 #[.pointer (some ⟨d, 0, none⟩), .string nm, .slice q n cb] w.drew _) := di_append w.drew h.drew hoff harm (by omega) nm hs hc q n cb bs hnb hnc hp (isBy_heap hb rfl) hfb hbb hr
  have HS : Hid (∀ w1 F1, Di B w1 d { p with con := Con.app p.con nm bs, wr := p.wr + 1 } F1 → Calls Tryd.prog 43 #[.pointer (some ⟨d, 0, none⟩), .string nm] w1.drew _) := fun w1 F1 h1 => di_sync w1.drew h1.drew hoff harm (by show p.wr + 1 ≤ 1000000000; omega) nm hs (Con.app_has _ _ _)
  have HG := hide hg
  have HL := hide hl
  have HLT := hide (heap_lt hg)
  have q1 : w.drew.cell? ⟨l, 0, none⟩ = some (.pointer (some ⟨d, 0, none⟩)) := hg.cell 0 _ rfl
  have q2 : w.drew.cell? ⟨l, 1, none⟩ = some (.string nm) := hg.cell 1 _ rfl
  clear h hg hl hs hc hnb hnc hp hb hfb hbb hr hoff harm
  go_enter Tryd.func24, Tryd.ntmps24
  go_upto_region 1 with fail
  refine wp_region_held_drew (S := fun w' => w'.cell? ⟨l, 0, none⟩ = some (.pointer (some ⟨d, 0, none⟩)) ∧ w'.cell? ⟨l, 1, none⟩ = some (.string nm)) (by kernel_rfl) ⟨q1, q2⟩ (fun hHeld => ?_)
  refine wpAnyH_take (i := 0) (v := ?_) rfl (by kernel_rfl) (by kernel_rfl) (by kernel_rfl) (fun _ _ _ h => h) (Or.inl ⟨by rfl, ?_⟩) hHeld ?_
  rotate_left
  · (intro wq hSw; (try dsimp only at hSw); (try obtain ⟨s0, s1⟩ := hSw); (go_simp <;> with_reducible rfl))
  try simp only [Act.put, List.getElem_toArray, List.getElem_cons_zero, List.getElem_cons_succ, List.setIfInBounds_toArray, List.set_cons_zero, List.set_cons_succ]
  refine wpAnyH_take (i := 1) (v := ?_) rfl (by kernel_rfl) (by kernel_rfl) (by kernel_rfl) (fun _ _ _ h => h) (Or.inl ⟨by rfl, ?_⟩) hHeld ?_
  rotate_left
  · (intro wq hSw; (try dsimp only at hSw); (try obtain ⟨s0, s1⟩ := hSw); (go_simp <;> with_reducible rfl))
  try simp only [Act.put, List.getElem_toArray, List.getElem_cons_zero, List.getElem_cons_succ, List.setIfInBounds_toArray, List.set_cons_zero, List.set_cons_succ]
  refine wpAnyH_take (i := 2) (v := ?_) rfl (by kernel_rfl) (by kernel_rfl) (by kernel_rfl) (fun _ _ _ h => h) (Or.inl ⟨by rfl, ?_⟩) hHeld ?_
  rotate_left
  · (intro wq hSw; (try dsimp only at hSw); (try obtain ⟨s0, s1⟩ := hSw); (go_simp <;> with_reducible rfl))
  try simp only [Act.put, List.getElem_toArray, List.getElem_cons_zero, List.getElem_cons_succ, List.setIfInBounds_toArray, List.set_cons_zero, List.set_cons_succ]
  refine wpAnyH_take (i := 3) (v := ?_) rfl (by kernel_rfl) (by kernel_rfl) (by kernel_rfl) (fun _ _ _ h => h) (Or.inl ⟨by rfl, ?_⟩) hHeld ?_
  rotate_left
  · (intro wq hSw; (try dsimp only at hSw); (try obtain ⟨s0, s1⟩ := hSw); (go_simp <;> with_reducible rfl))
  try simp only [Act.put, List.getElem_toArray, List.getElem_cons_zero, List.getElem_cons_succ, List.setIfInBounds_toArray, List.set_cons_zero, List.set_cons_succ]
  refine wpAnyH_take (i := 4) (v := ?_) rfl (by kernel_rfl) (by kernel_rfl) (by kernel_rfl) (fun _ _ _ h => h) (Or.inl ⟨by rfl, ?_⟩) hHeld ?_
  rotate_left
  · (intro wq hSw; (try dsimp only at hSw); (try obtain ⟨s0, s1⟩ := hSw); (go_simp <;> with_reducible rfl))
  try simp only [Act.put, List.getElem_toArray, List.getElem_cons_zero, List.getElem_cons_succ, List.setIfInBounds_toArray, List.set_cons_zero, List.set_cons_succ]
  refine wpAnyH_take (i := 5) (v := ?_) rfl (by kernel_rfl) (by kernel_rfl) (by kernel_rfl) (fun _ _ _ h => h) (Or.inl ⟨by rfl, ?_⟩) hHeld ?_
  rotate_left
  · (intro wq hSw; (try dsimp only at hSw); (try obtain ⟨s0, s1⟩ := hSw); (go_simp <;> with_reducible rfl))
  try simp only [Act.put, List.getElem_toArray, List.getElem_cons_zero, List.getElem_cons_succ, List.setIfInBounds_toArray, List.set_cons_zero, List.set_cons_succ]
  refine wpAnyH_take (i := 6) (v := ?_) rfl (by kernel_rfl) (by kernel_rfl) (by kernel_rfl) (fun _ _ _ h => h) (Or.inl ⟨by rfl, ?_⟩) hHeld ?_
  rotate_left
  · (intro wq hSw; (try dsimp only at hSw); (try obtain ⟨s0, s1⟩ := hSw); (go_simp <;> with_reducible rfl))
  try simp only [Act.put, List.getElem_toArray, List.getElem_cons_zero, List.getElem_cons_succ, List.setIfInBounds_toArray, List.set_cons_zero, List.set_cons_succ]
  refine wpAnyH_take (i := 7) (v := ?_) rfl (by kernel_rfl) (by kernel_rfl) (by kernel_rfl) (fun _ _ _ h => h) (Or.inl ⟨by rfl, ?_⟩) hHeld ?_
  rotate_left
  · (intro wq hSw; (try dsimp only at hSw); (try obtain ⟨s0, s1⟩ := hSw); (go_simp <;> with_reducible rfl))
  try simp only [Act.put, List.getElem_toArray, List.getElem_cons_zero, List.getElem_cons_succ, List.setIfInBounds_toArray, List.set_cons_zero, List.set_cons_succ]
  refine wpAnyH_take (i := 8) (v := ?_) rfl (by kernel_rfl) (by kernel_rfl) (by kernel_rfl) (fun _ _ _ h => h) (Or.inl ⟨by rfl, ?_⟩) hHeld ?_
  rotate_left
  · (intro wq hSw; (try dsimp only at hSw); (try obtain ⟨s0, s1⟩ := hSw); (go_simp <;> with_reducible rfl))
  try simp only [Act.put, List.getElem_toArray, List.getElem_cons_zero, List.getElem_cons_succ, List.setIfInBounds_toArray, List.set_cons_zero, List.set_cons_succ]
  refine wpAnyH_ready (rs := [9]) (by kernel_rfl) (by simp) ?_
  refine AllReadyH.cons rfl (fun K hK => ?_) AllReadyH.nil
  go_simp
  refine HA.out.mono ?_
  rintro _ w1 ⟨rfl, F1, hD1, hF1⟩
  have H1 : Hid (Di B w1 d { p with con := Con.app p.con nm bs, wr := p.wr + 1 } F1 ∧ Fr w F w1 F1) := ⟨hD1, hF1.drew⟩
  clear hD1 hF1
  have HG1 : Hid (Lg w1 l d nm sz ct ∧ ¬ F1 l) := ⟨HG.out.fr H1.out.2 HL.out, (H1.out.2.block l HLT.out HL.out).1⟩
  have r1 : w1.cell? ⟨l, 0, none⟩ = some (.pointer (some ⟨d, 0, none⟩)) := HG1.out.1.cell 0 _ rfl
  have r2 : w1.cell? ⟨l, 1, none⟩ = some (.string nm) := HG1.out.1.cell 1 _ rfl
  have t1 : w1.drew.cell? ⟨l, 0, none⟩ = some (.pointer (some ⟨d, 0, none⟩)) := r1
  have t2 : w1.drew.cell? ⟨l, 1, none⟩ = some (.string nm) := r2
  refine hK.out _ _ ⟨r1, r2⟩ (fun hHeld => ?_)
  clear hK K
  try simp only [Act.put, List.getElem_toArray, List.getElem_cons_zero, List.getElem_cons_succ, List.setIfInBounds_toArray, List.set_cons_zero, List.set_cons_succ]
  refine wpAnyH_take (i := 10) (v := ?_) rfl (by kernel_rfl) (by kernel_rfl) (by kernel_rfl) (fun _ _ _ h => h) (Or.inl ⟨by rfl, ?_⟩) hHeld ?_
  rotate_left
  · (intro wq hSw; (try dsimp only at hSw); (try obtain ⟨s0, s1⟩ := hSw); (go_simp <;> with_reducible rfl))
  try simp only [Act.put, List.getElem_toArray, List.getElem_cons_zero, List.getElem_cons_succ, List.setIfInBounds_toArray, List.set_cons_zero, List.set_cons_succ]
  refine wpAnyH_done (by kernel_rfl) ?_ _
  go_upto_region 4 with fail
  refine wp_region_held_drew (S := fun w' => w'.cell? ⟨l, 0, none⟩ = some (.pointer (some ⟨d, 0, none⟩)) ∧ w'.cell? ⟨l, 1, none⟩ = some (.string nm)) (by kernel_rfl) ⟨t1, t2⟩ (fun hHeld => ?_)
  refine wpAnyH_take (i := 0) (v := ?_) rfl (by kernel_rfl) (by kernel_rfl) (by kernel_rfl) (fun _ _ _ h => h) (Or.inl ⟨by rfl, ?_⟩) hHeld ?_
  rotate_left
  · (intro wq hSw; (try dsimp only at hSw); (try obtain ⟨s0, s1⟩ := hSw); (go_simp <;> with_reducible rfl))
  try simp only [Act.put, List.getElem_toArray, List.getElem_cons_zero, List.getElem_cons_succ, List.setIfInBounds_toArray, List.set_cons_zero, List.set_cons_succ]
  refine wpAnyH_take (i := 1) (v := ?_) rfl (by kernel_rfl) (by kernel_rfl) (by kernel_rfl) (fun _ _ _ h => h) (Or.inl ⟨by rfl, ?_⟩) hHeld ?_
  rotate_left
  · (intro wq hSw; (try dsimp only at hSw); (try obtain ⟨s0, s1⟩ := hSw); (go_simp <;> with_reducible rfl))
  try simp only [Act.put, List.getElem_toArray, List.getElem_cons_zero, List.getElem_cons_succ, List.setIfInBounds_toArray, List.set_cons_zero, List.set_cons_succ]
  refine wpAnyH_take (i := 2) (v := ?_) rfl (by kernel_rfl) (by kernel_rfl) (by kernel_rfl) (fun _ _ _ h => h) (Or.inl ⟨by rfl, ?_⟩) hHeld ?_
  rotate_left
  · (intro wq hSw; (try dsimp only at hSw); (try obtain ⟨s0, s1⟩ := hSw); (go_simp <;> with_reducible rfl))
  try simp only [Act.put, List.getElem_toArray, List.getElem_cons_zero, List.getElem_cons_succ, List.setIfInBounds_toArray, List.set_cons_zero, List.set_cons_succ]
  refine wpAnyH_take (i := 3) (v := ?_) rfl (by kernel_rfl) (by kernel_rfl) (by kernel_rfl) (fun _ _ _ h => h) (Or.inl ⟨by rfl, ?_⟩) hHeld ?_
  rotate_left
  · (intro wq hSw; (try dsimp only at hSw); (try obtain ⟨s0, s1⟩ := hSw); (go_simp <;> with_reducible rfl))
  try simp only [Act.put, List.getElem_toArray, List.getElem_cons_zero, List.getElem_cons_succ, List.setIfInBounds_toArray, List.set_cons_zero, List.set_cons_succ]
  refine wpAnyH_take (i := 4) (v := ?_) rfl (by kernel_rfl) (by kernel_rfl) (by kernel_rfl) (fun _ _ _ h => h) (Or.inl ⟨by rfl, ?_⟩) hHeld ?_
  rotate_left
  · (intro wq hSw; (try dsimp only at hSw); (try obtain ⟨s0, s1⟩ := hSw); (go_simp <;> with_reducible rfl))
  try simp only [Act.put, List.getElem_toArray, List.getElem_cons_zero, List.getElem_cons_succ, List.setIfInBounds_toArray, List.set_cons_zero, List.set_cons_succ]
  refine wpAnyH_take (i := 5) (v := ?_) rfl (by kernel_rfl) (by kernel_rfl) (by kernel_rfl) (fun _ _ _ h => h) (Or.inl ⟨by rfl, ?_⟩) hHeld ?_
  rotate_left
  · (intro wq hSw; (try dsimp only at hSw); (try obtain ⟨s0, s1⟩ := hSw); (go_simp <;> with_reducible rfl))
  try simp only [Act.put, List.getElem_toArray, List.getElem_cons_zero, List.getElem_cons_succ, List.setIfInBounds_toArray, List.set_cons_zero, List.set_cons_succ]
  refine wpAnyH_take (i := 6) (v := ?_) rfl (by kernel_rfl) (by kernel_rfl) (by kernel_rfl) (fun _ _ _ h => h) (Or.inl ⟨by rfl, ?_⟩) hHeld ?_
  rotate_left
  · (intro wq hSw; (try dsimp only at hSw); (try obtain ⟨s0, s1⟩ := hSw); (go_simp <;> with_reducible rfl))
  try simp only [Act.put, List.getElem_toArray, List.getElem_cons_zero, List.getElem_cons_succ, List.setIfInBounds_toArray, List.set_cons_zero, List.set_cons_succ]
  refine wpAnyH_take (i := 7) (v := ?_) rfl (by kernel_rfl) (by kernel_rfl) (by kernel_rfl) (fun _ _ _ h => h) (Or.inl ⟨by rfl, ?_⟩) hHeld ?_
  rotate_left
  · (intro wq hSw; (try dsimp only at hSw); (try obtain ⟨s0, s1⟩ := hSw); (go_simp <;> with_reducible rfl))
  try simp only [Act.put, List.getElem_toArray, List.getElem_cons_zero, List.getElem_cons_succ, List.setIfInBounds_toArray, List.set_cons_zero, List.set_cons_succ]
  refine wpAnyH_ready (rs := [8]) (by kernel_rfl) (by simp) ?_
  refine AllReadyH.cons rfl (fun K hK => ?_) AllReadyH.nil
  go_simp
  refine (HS.out w1 F1 H1.out.1).mono ?_
  rintro _ w2 ⟨rfl, F2, hD2, hF2⟩
  have H2 : Hid (Di B w2 d { p with con := Con.lay p.con nm bs, wr := p.wr + 2 } F2 ∧ Fr w F w2 F2) := ⟨hD2, H1.out.2.trans hF2.drew⟩
  have HG2 : Hid (Lg w2 l d nm sz ct) := HG1.out.1.fr hF2.drew HG1.out.2
  clear hD2 hF2
  have u1 : w2.cell? ⟨l, 0, none⟩ = some (.pointer (some ⟨d, 0, none⟩)) := HG2.out.cell 0 _ rfl
  have u2 : w2.cell? ⟨l, 1, none⟩ = some (.string nm) := HG2.out.cell 1 _ rfl
  refine hK.out _ _ ⟨u1, u2⟩ (fun hHeld => ?_)
  clear hK K
  try simp only [Act.put, List.getElem_toArray, List.getElem_cons_zero, List.getElem_cons_succ, List.setIfInBounds_toArray, List.set_cons_zero, List.set_cons_succ]
  refine wpAnyH_take (i := 9) (v := ?_) rfl (by kernel_rfl) (by kernel_rfl) (by kernel_rfl) (fun _ _ _ h => h) (Or.inl ⟨by rfl, ?_⟩) hHeld ?_
  rotate_left
  · (intro wq hSw; (try dsimp only at hSw); (try obtain ⟨s0, s1⟩ := hSw); (go_simp <;> with_reducible rfl))
  try simp only [Act.put, List.getElem_toArray, List.getElem_cons_zero, List.getElem_cons_succ, List.setIfInBounds_toArray, List.set_cons_zero, List.set_cons_succ]
  refine wpAnyH_done (by kernel_rfl) ?_ _
  go_wp2_with fail
  go_ret
  exact ⟨rfl, F2, H2.out⟩

end Go.Proofs.YtgmahgfelbkoeaaDoor

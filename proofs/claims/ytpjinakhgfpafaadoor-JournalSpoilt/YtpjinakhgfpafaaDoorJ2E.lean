/- Whether rows may be a record; its bytes. -/
import Derived.Test.YtpjinakhgfpafaaDoorJ2D
namespace Go.Proofs.YtpjinakhgfpafaaDoor
open Go.RowKit
set_option linter.unusedVariables false
set_option linter.unusedSimpArgs false

/-- The body of the first k rows. -/
def bodyP (q : Nat → List Nat) : Nat → List Nat
  | 0 => []
  | k + 1 => bodyP q k ++ four (q k).length ++ q k

theorem bodyP_le (q : Nat → List Nat) (k m : Nat) (h : k ≤ m) : (bodyP q k).length ≤ (bodyP q m).length := by
  induction m with
  | zero => rw [show k = 0 from by omega]; exact Nat.le_refl _
  | succ m ih =>
    by_cases e : k = m + 1
    · rw [e]; exact Nat.le_refl _
    · have := ih (by omega); rw [bodyP, List.length_append, List.length_append]; omega

theorem bodyP_lt {q : Nat → List Nat} {m : Nat} (h : ∀ i, i < m → ∀ n ∈ q i, n < 256) : ∀ k, k ≤ m → ∀ n ∈ bodyP q k, n < 256 := by
  intro k
  induction k with
  | zero => intro _ n hn; simp [bodyP] at hn
  | succ k ih =>
    intro hk n hn
    rw [bodyP, List.mem_append, List.mem_append] at hn
    rcases hn with (hn | hn) | hn
    · exact ih (by omega) n hn
    · exact four_lt _ n hn
    · exact h k (by omega) n hn

theorem parts_three {w : World} {g : Nat} {v0 v1 v2 : Value} {a b c : List Nat} (h : w.heap[g]? = some (.cells #[v0, v1, v2] 30 (0, 0))) (h0 : IsBy w v0 a) (h1 : IsBy w v1 b) (h2 : IsBy w v2 c) : PartsOf w (some ⟨g, 0, none⟩) 3 (fun i => if i = 0 then a else if i = 1 then b else c) := fun i hi => by
  match i, hi with
  | 0, _ => exact ⟨g, 0, v0, rfl, by rw [cell_of_row w g _ _ _ (0, 0) h]; rfl, h0⟩
  | 1, _ => exact ⟨g, 0, v1, rfl, by rw [cell_of_row w g _ _ _ (0, 0) h]; rfl, h1⟩
  | 2, _ => exact ⟨g, 0, v2, rfl, by rw [cell_of_row w g _ _ _ (0, 0) h]; rfl, h2⟩

theorem ownsRow_low {w : World} {B C : Nat} {t : TypeId} {size : Nat} {v : Value} {n : Nat} {xs : List Value} (h : w.ownsRow B t size v n xs) (hc : C ≤ B) : w.ownsRow C t size v n xs := by
  refine ⟨h.1, ?_⟩
  rcases h.2 with e | ⟨g, cap, cur, e1, e2, e3⟩
  · exact .inl e
  · exact .inr ⟨g, cap, cur, e1, Nat.le_trans hc e2, e3⟩

def recP (q : Nat → List Nat) (m : Nat) : List Nat := four (bodyP q m).length ++ four (crcO (four (bodyP q m).length ++ bodyP q m)) ++ bodyP q m

theorem crcO_lt (bs : List Nat) : crcO bs < 4294967296 := by unfold crcO; omega

set_option maxRecDepth 100000 in
theorem fits_rows (p : Option Addr) (m cap : Nat) (q : Nat → List Nat) (w : World) (h : PartsOf w p m q) (hm : m ≤ 100000000) (hl : (bodyP q m).length ≤ 1000000000) :
    Calls Tryd.prog 31 #[.slice p m cap] w fun e w' => e = .returned (.bool (decide (m ≤ 4096 ∧ (bodyP q m).length ≤ 4194304))) ∧ w' = w := by
  have H := hide h
  obtain ⟨N, hN⟩ : ∃ N, (bodyP q m).length = N := ⟨_, rfl⟩
  have HN := hide hN
  rw [hN] at hl ⊢
  clear h hN
  go_enter Tryd.func31, Tryd.ntmps31
  go_wp2_with fail
  go_loopw [3, 8] (fun t3 t8 wr => ∃ k s : Nat, t8 = .int .i64 (k : Int) ∧ t3 = .int .i64 (s : Int) ∧ wr = w ∧ Hid (k ≤ m ∧ s = (bodyP q k).length)) (fun _ t8 _ => m - (intOf t8).toNat)
  case atStart => exact ⟨0, 0, rfl, rfl, rfl, Nat.zero_le _, rfl⟩
  case round =>
    obtain ⟨k, s, rfl, rfl, rfl, hI⟩ := hrel
    by_cases hlt : k < m
    · obtain ⟨b, o, v, rfl, c1, hv⟩ := H.out k hlt
      obtain ⟨pv, cv, rfl, _⟩ := by_slice hv
      have hs1 : s + 4 + (q k).length ≤ N := by
        have := bodyP_le q (k + 1) m (by omega)
        rw [bodyP, List.length_append, List.length_append, HN.out, ← hI.out.2] at this; simp [four] at this; omega
      have HNX : Hid (s + (4 + (q k).length) = (bodyP q (k + 1)).length) := by rw [bodyP, List.length_append, List.length_append, ← hI.out.2]; simp [four]; show _ = _; omega
      obtain ⟨L, hL⟩ : ∃ L, (q k).length = L := ⟨_, rfl⟩
      rw [hL] at c1 hs1 HNX
      clear hL hv hI
      go_wp2_with fail
      go_roundw
      case rel => exact ⟨k + 1, s + (4 + L), by simp, by simp, by trivial, hlt, HNX.out⟩
      case measure => simp [intOf]; omega
    · have hk : k = m := by have := hI.out.1; omega
      have hs : s = N := by rw [hI.out.2, hk, HN.out]
      subst hs
      clear hI
      by_cases h1 : m ≤ 4096
      · have h1' : (m : Int) ≤ 4096 := by omega
        by_cases h2 : s ≤ 4194304
        · have h2' : (s : Int) ≤ 4194304 := by omega
          go_wp2_with fail
          go_ret
          exact ⟨by simp [h1, h2], rfl⟩
        · have h2' : ¬ (s : Int) ≤ 4194304 := by omega
          go_wp2_with fail
          go_ret
          exact ⟨by simp [h1, h2], rfl⟩
      · have h1' : ¬ (m : Int) ≤ 4096 := by omega
        go_wp2_with fail
        go_ret
        exact ⟨by simp [h1], rfl⟩

set_option maxRecDepth 100000 in
set_option maxHeartbeats 1000000 in
theorem record_any (p : Option Addr) (m cap : Nat) (q : Nat → List Nat) (w : World) (h : PartsOf w p m q) (hq : ∀ i, i < m → ∀ n ∈ q i, n < 256) (hm : m ≤ 4096) (hl : (bodyP q m).length ≤ 4194304) (hT : TabC w) :
    Calls Tryd.prog 32 #[.slice p m cap] w fun e w' => ∃ v, e = .returned v ∧ OB w.heap.size w (recP q m) v w' := by
  obtain ⟨i5, hi5⟩ := info5
  have Hi := hide hi5
  have H := hide h
  have HQ := hide hq
  have HT := hide hT
  obtain ⟨N, hN⟩ : ∃ N, (bodyP q m).length = N := ⟨_, rfl⟩
  have HN := hide hN
  rw [hN] at hl
  clear h hN hi5 hq hT
  go_enter Tryd.func32, Tryd.ntmps32
  go_wp2_with fail
  go_loopw [3, 9] (fun t3 t9 wq => ∃ k : Nat, t9 = .int .i64 (k : Int) ∧ Hid (k ≤ m ∧ OB w.heap.size w (bodyP q k) t3 wq)) (fun _ t9 _ => m - (intOf t9).toNat)
  case atStart => exact ⟨0, rfl, Nat.zero_le _, OB.nil w⟩
  case round =>
    obtain ⟨k, rfl, hJ⟩ := hrel
    obtain ⟨p3, c3, h3⟩ := hJ.out.2.slice
    subst h3
    have HO3 := hide hJ.out.2.own
    have HJ := hide hJ.out.2
    have HB : Hid (w.heap.size ≤ wr.heap.size) := HJ.out.bel.size
    obtain ⟨n3, hn3⟩ : ∃ n3, (bodyP q k).length = n3 := ⟨_, rfl⟩
    have Hn3 := hide hn3
    rw [hn3] at HO3 ⊢
    have hn3l : n3 ≤ N := by rw [← hn3, ← HN.out]; exact bodyP_le q k m hJ.out.1
    by_cases hlt : k < m
    · obtain ⟨b, o, v, rfl, c1, hv⟩ := H.out k hlt
      have hblt := World.block_lt_of_cell? _ _ c1
      have c2 : wr.cell? ⟨b, o + k, none⟩ = some v := by rw [HJ.out.bel.cell (p := ⟨b, o + k, none⟩) hblt]; exact c1
      have HV := hide hv
      have hsz : (bodyP q (k + 1)).length ≤ N := by rw [← HN.out]; exact bodyP_le q (k + 1) m hlt
      obtain ⟨pv, cv, rfl, _⟩ := by_slice hv
      obtain ⟨L, hL⟩ : ∃ L, (q k).length = L := ⟨_, rfl⟩
      have HL := hide hL
      rw [bodyP, List.length_append, List.length_append, hn3, hL] at hsz
      rw [hL] at c2 HV
      have hsz2 : n3 + 4 + L ≤ N := by simpa [four] using hsz
      have hLl : L < 4294967296 := by omega
      have hw32 : IntKind.u32.wrap (L : Int) = (L : Int) := by rw [IntKind.wrap_u32]; omega
      obtain ⟨n6, hn6⟩ : ∃ n6, (bodyP q k ++ four L).length = n6 := ⟨_, rfl⟩
      have Hn6 := hide hn6
      have hn6l : n6 + L ≤ N := by rw [← hn6, List.length_append, hn3]; simp [four]; omega
      clear hv hJ hn3 hsz hn6 hL
      go_wp2_with fail
      refine (laid_any (B := w.heap.size) _ (.slice p3 n3 c3) (bodyP q k) L (by rw [Hn3.out]; exact HO3.out) HB.out hLl (by rw [Hn3.out]; omega)).mono ?_
      rintro e w1 ⟨v1, rfl, ho1, hg1, hat1⟩
      have H1 : Hid (OB w.heap.size w (bodyP q k ++ four L) v1 w1) := HJ.out.more (cs := four L) (v2 := v1) (by rw [← bytesV_app, ← List.length_append]; exact ho1) (by rw [Hn3.out]; exact hg1)
      clear ho1 hg1 hat1
      obtain ⟨p6, c6, h6⟩ := H1.out.slice
      subst h6
      have HO6 := hide H1.out.own
      rw [Hn6.out] at HO6
      rw [Hn6.out]
      have hv1 := isBy_below HV.out H1.out.bel
      have HB1 : Hid (w.heap.size ≤ w1.heap.size) := H1.out.bel.size
      rcases by_news hv1 with ⟨hnl, hq0⟩ | ⟨ad, capk, hsl, hnews⟩
      · obtain ⟨rfl, rfl, rfl⟩ : pv = none ∧ L = 0 ∧ cv = 0 := by simpa using hnl
        have HR : Hid (OB w.heap.size w (bodyP q (k + 1)) (.slice p6 n6 c6) w1) := by have := H1.out; rw [Hn6.out] at this; rw [bodyP, HL.out, hq0, List.append_nil]; exact this
        clear hv1 hq0 HV hnl
        go_wp2_with (at_builtin; refine wpList_append_own_none rfl _ _ _ rfl w.heap.size 5 i5 1 Tryd.underlying30 Hi.out.1 (.slice p6 n6 c6) n6 (bytesV (bodyP q k ++ four 0)) rfl HO6.out rfl ?g6)
        go_roundw
        case rel => exact ⟨k + 1, by simp, hlt, HR.out⟩
        case measure => simp [intOf]; omega
      · obtain ⟨rfl, nk, hnk, rfl⟩ : pv = some ad ∧ ∃ nk, nk = L ∧ cv = capk := by simp at hsl; exact ⟨hsl.1, L, rfl, hsl.2.2⟩
        subst hnk
        have HNW := hide hnews
        clear hv1 hnews hsl HV
        go_wp2_with (at_builtin; refine wpList_append_own_at _ rfl _ _ _ rfl w.heap.size 5 i5 (.int .u8 0) 1 1 Tryd.underlying30 Hi.out.1 Hi.out.2.1 Hi.out.2.2.1 Hi.out.2.2.2 rfl (by decide) (.slice p6 n6 c6) n6 (bytesV (bodyP q k ++ four nk)) rfl HO6.out ad nk cv (bytesV (q k)) rfl ?f2 ?f3 (bytesV_cell (q k)) ?f4 ?f5 ?f7 ?f6)
        case f2 => first | exact HL.out | (rw [Nat.mul_one, ← HL.out]; simp)
        case f3 => exact HNW.out
        case f4 => unfold maxLen; omega
        case f5 => omega
        case f7 => exact HB1.out
        case f6 =>
          intro v2 w2 ho2 hg2 _ hat
          have HR : Hid (OB w.heap.size w (bodyP q (k + 1)) v2 w2) := by
            rw [bodyP, HL.out]
            exact H1.out.more (cs := q k) (by rw [Hn6.out, HL.out]; exact ho2) (by rw [Hn6.out]; exact hg2)
          clear ho2 hg2 hat
          go_wp2_with fail
          go_roundw
          case rel => exact ⟨k + 1, by simp, hlt, HR.out⟩
          case measure => simp [intOf]; omega
    · have hkm : k = m := by have := hJ.out.1; omega
      subst hkm
      obtain rfl : n3 = N := by rw [← hn3, ← HN.out]
      have hw32 : IntKind.u32.wrap (n3 : Int) = (n3 : Int) := by rw [IntKind.wrap_u32]; omega
      have HBD : Hid (∀ n ∈ bodyP q k, n < 256) := bodyP_lt HQ.out k (Nat.le_refl _)
      clear hJ hn3
      go_wp2_with fail
      refine (laid_any (B := wr.heap.size) _ (.slice none 0 0) [] n3 (World.ownsRow_nil _ _ _ _) (Nat.le_refl _) (by omega) (by simp)).mono ?_
      rintro e w1 ⟨v1, rfl, ho1, hg1, hat1⟩
      have H1 : Hid (OB wr.heap.size wr (four n3) v1 w1) := ⟨ho1, grown_below hg1 (fun g hg => by simp [Value.ownBlock] at hg) (Nat.le_refl _), Nat.le_refl _⟩
      obtain ⟨p6, c6, h6⟩ := H1.out.slice
      subst h6
      clear ho1 hg1 hat1
      have HW1 : Hid (IsBy w1 (.slice p3 n3 c3) (bodyP q k) ∧ IsBy w1 (.slice p6 (four n3).length c6) (four n3) ∧ Below w.heap.size w w1 ∧ TabC w1) := by
        have hb := HJ.out.by_
        rw [Hn3.out] at hb
        have hbel := HJ.out.bel.trans (H1.out.bel.mono HB.out)
        exact ⟨isBy_below hb H1.out.bel, H1.out.by_, hbel, HT.out.below hbel⟩
      obtain ⟨n4, hn4⟩ : ∃ n4, (four n3).length = n4 := ⟨_, rfl⟩
      rw [hn4] at HW1 ⊢
      go_wp2_with fail
      refine (sumOf_any _ _ (four n3) (bodyP q k) w1 HW1.out.2.1 HW1.out.1 (four_lt n3) HBD.out (by rw [Hn3.out]; simp [four]; omega) HW1.out.2.2.2).mono ?_
      rintro e w2 ⟨rfl, hB2⟩
      have HW2 : Hid (IsBy w2 (.slice p3 n3 c3) (bodyP q k) ∧ IsBy w2 (.slice p6 n4 c6) (four n3) ∧ Below w.heap.size w w2) := ⟨isBy_below HW1.out.1 hB2, isBy_below HW1.out.2.1 hB2, HW1.out.2.2.1.trans (hB2.mono HW1.out.2.2.1.size)⟩
      have hcl := crcO_lt (four n3 ++ bodyP q k)
      have HRP : Hid (recP q k = four n3 ++ four (crcO (four n3 ++ bodyP q k)) ++ bodyP q k) := by unfold recP; rw [Hn3.out]; rfl
      obtain ⟨cr, hcr⟩ : ∃ cr, crcO (four n3 ++ bodyP q k) = cr := ⟨_, rfl⟩
      rw [hcr] at hcl HRP ⊢
      clear hB2 hcr
      go_wp2_with fail
      refine (laid_any (B := w2.heap.size) _ (.slice none 0 0) [] cr (World.ownsRow_nil _ _ _ _) (Nat.le_refl _) hcl (by simp)).mono ?_
      rintro e w3 ⟨v3, rfl, ho3, hg3, hat3⟩
      have H3 : Hid (OB w2.heap.size w2 (four cr) v3 w3) := ⟨ho3, grown_below hg3 (fun g hg => by simp [Value.ownBlock] at hg) (Nat.le_refl _), Nat.le_refl _⟩
      obtain ⟨p7, c7, h7⟩ := H3.out.slice
      subst h7
      clear ho3 hg3 hat3
      have hba : Below w3.heap.size w3 (w3.alloc (.cells #[.slice p6 n4 c6, .slice p7 (four cr).length c7, .slice p3 n3 c3] 30)) := (Below.refl _ _).alloc (Nat.le_refl _) _
      have HW3 : Hid (IsBy w3 (.slice p3 n3 c3) (bodyP q k) ∧ IsBy w3 (.slice p6 n4 c6) (four n3) ∧ IsBy w3 (.slice p7 (four cr).length c7) (four cr) ∧ Below w.heap.size w w3) := ⟨isBy_below HW2.out.1 H3.out.bel, isBy_below HW2.out.2.1 H3.out.bel, H3.out.by_, HW2.out.2.2.trans (H3.out.bel.mono HW2.out.2.2.size)⟩
      have hcat : catP (fun i => if i = 0 then four n3 else if i = 1 then four cr else bodyP q k) 3 = recP q k := by rw [HRP.out]; simp [catP]
      have HC : Hid (Calls Tryd.prog 51 #[.slice (some ⟨w3.heap.size, 0, none⟩) 3 3] (w3.alloc (.cells #[.slice p6 n4 c6, .slice p7 (four cr).length c7, .slice p3 n3 c3] 30)) fun e w' => ∃ v, e = .returned v ∧ OB w.heap.size w (recP q k) v w') := by
        refine (concat_any (some ⟨w3.heap.size, 0, none⟩) 3 3 _ _ (parts_three (heap_alloc_new w3 _) (isBy_below HW3.out.2.1 hba) (isBy_below HW3.out.2.2.1 hba) (isBy_below HW3.out.1 hba)) (by decide) (by rw [hcat, HRP.out, List.length_append, List.length_append, Hn3.out]; simp [four]; omega)).mono ?_
        rintro e w4 ⟨v4, rfl, hO4⟩
        rw [hcat] at hO4
        have hle : w.heap.size ≤ (w3.alloc (.cells #[.slice p6 n4 c6, .slice p7 (four cr).length c7, .slice p3 n3 c3] 30)).heap.size := Nat.le_trans HW3.out.2.2.2.size hba.size
        exact ⟨v4, rfl, ⟨ownsRow_low hO4.own hle, (HW3.out.2.2.2.trans (hba.mono HW3.out.2.2.2.size)).trans (hO4.bel.mono hle), Nat.le_refl _⟩⟩
      clear hba hcat
      obtain ⟨n5, hn5⟩ : ∃ n5, (four cr).length = n5 := ⟨_, rfl⟩
      rw [hn5] at HC ⊢
      clear hn5 hn4
      go_wp2_with (go_at_call 51; refine HC.out.mono ?_; rintro e w4 ⟨v4, rfl, hO4⟩; have HO4 := hide hO4; clear hO4)
      go_ret
      exact ⟨_, rfl, HO4.out⟩

end Go.Proofs.YtpjinakhgfpafaaDoor

/- OfText. -/
import Derived.Test.YtfbkdjghbgdgpaaAK
import Derived.Test.YtfbkdjghbgdgpaaAL
namespace Go.Proofs.Ytfbkdjghbgdgpaa
open Go.RowKit
open M
set_option linter.unusedVariables false
set_option linter.unusedSimpArgs false

def strLen : Value → Nat | .string s => s.size | _ => 0

theorem sd_extract (s : ByteArray) (i L : Nat) (hL : L ≤ s.size) (j : Nat) (hj : i + j < L) : sd (s.extract i L) j = sd s (i + j) := by
  have h1 : j < (s.extract i L).size := by rw [ByteArray.size_extract]; omega
  have h2 : i + j < s.size := by omega
  unfold sd
  rw [dif_pos h1, dif_pos h2, ByteArray.getElem_extract]

theorem AllDec.extract {s : ByteArray} (h : AllDec s) (i L : Nat) (hL : L ≤ s.size) : AllDec (s.extract i L) := by
  intro k hk
  rw [ByteArray.getElem_extract]
  exact h _ _

theorem dv_congr {f g : Nat → Nat} : ∀ n, (∀ j, j < n → f j = g j) → dv f n = dv g n
  | 0, _ => rfl
  | n + 1, h => by show dv f n * 10 + f n = dv g n * 10 + g n; rw [dv_congr n fun j hj => h j (by omega), h n (by omega)]

theorem dv_mono (f : Nat → Nat) (i : Nat) : ∀ n, dv f i ≤ dv f (i + n)
  | 0 => Nat.le_refl _
  | n + 1 => by have := dv_mono f i n; show _ ≤ dv f (i + n) * 10 + f (i + n); omega

/-- Behind i digits of OfText. -/
def TextSt (w : World) (s r : ByteArray) (i k : Nat) (v : Value) (wr : World) : Prop :=
  AllDec r ∧ (∀ j, j < r.size → sd r j = sd s (i + j)) ∧ Own wr w.heap.size v k (dv (sd s) i) ∧ Nrm k (dv (sd s) i) ∧ Below w.heap.size w wr

set_option maxRecDepth 100000 in
set_option maxHeartbeats 1000000 in
theorem OfText_dec (s : ByteArray) (w : World) (hs : s.size ≤ 9223372036854775807) (h : IsDec s) :
    Calls Try.prog 12 #[.string s] w fun e w' => ∃ r c, e = .returned (.tuple #[r, .int .i64 c]) ∧ Told w' w.heap.size r c (dv (sd s) s.size) ∧ Below w.heap.size w w' := by
  have HD := hide h
  clear h
  obtain ⟨L, hL⟩ : ∃ L, s.size = L := ⟨_, rfl⟩
  go_enter Try.func12, Try.ntmps12
  go_wp2_with fail
  refine (isDecimal_any s w hs).mono ?_
  rintro e w1 ⟨⟨b, rfl, hb⟩, rfl⟩
  obtain rfl := hb.2 HD.out
  clear hb
  have HS0 : Hid (TextSt w1 s s 0 0 (.slice (some ⟨w1.heap.size, 0, none⟩) 0 0) (w1.alloc (.cells #[] 58))) :=
    ⟨HD.out.1, fun j _ => by rw [Nat.zero_add], ⟨by simp [dv], by omega, by simp [limbsV], .inr ⟨w1.heap.size, 0, #[], rfl, Nat.le_refl _, heap_alloc_new w1 _, Nat.le_refl _, by unfold maxLen; omega, rfl, by simp [limbsV]⟩⟩, nrm_zero, (Below.refl _ _).alloc (Nat.le_refl _) _⟩
  go_wp2_with fail
  go_loopw [0, 4] (fun t0 t4 wr => ∃ (i : Nat) (r : ByteArray) (k : Nat) (ad : Option Addr) (cap : Nat), i ≤ L ∧ k ≤ 8193 ∧ r.size = L - i ∧ t0 = .string r ∧ t4 = .slice ad k cap ∧ Hid (TextSt w1 s r i k (.slice ad k cap) wr)) (fun t0 _ _ => strLen t0)
  case atStart => exact ⟨0, s, 0, some ⟨w1.heap.size, 0, none⟩, 0, by omega, by omega, by omega, rfl, rfl, HS0⟩
  case round =>
    obtain ⟨i, r, k, ad, cap, hi, hk, hr, rfl, rfl, HS⟩ := hrel
    clear HS0
    obtain ⟨R, hR⟩ : ∃ R, L - i = R := ⟨_, rfl⟩
    rw [hR] at hr
    by_cases hgo : 0 < R ∧ k ≤ 8192
    · have g1 : (0 : Int) < (R : Int) := by omega
      have g2 : (k : Int) ≤ 8192 := by omega
      obtain ⟨n, hn, hn'⟩ : ∃ n : Nat, n = (R - 1) % 9 + 1 ∧ ((R : Int) - 1).tmod 9 + 1 = (n : Int) := ⟨(R - 1) % 9 + 1, rfl, by rw [Int.tmod_eq_emod_of_nonneg (by omega)]; omega⟩
      have hn9 : 1 ≤ n ∧ n ≤ 9 ∧ n ≤ R := by omega
      have hn2 : ((R : Int) - 1) % 9 + 1 = (n : Int) := by omega
      clear hn
      have Hst : Hid (AllDec (r.extract 0 n) ∧ (r.extract 0 n).size = n ∧ dv (sd s) (i + n) = dv (sd s) i * 10 ^ n + dv (sd (r.extract 0 n)) n) := by
        have hsz : (r.extract 0 n).size = n := by rw [ByteArray.size_extract]; omega
        refine ⟨HS.out.1.extract 0 n (by omega), hsz, ?_⟩
        rw [dv_add]
        congr 1
        refine dv_congr n fun j hj => ?_
        rw [sd_extract r 0 n (by omega) j (by omega), Nat.zero_add]
        exact (HS.out.2.1 j (by omega)).symm
      have Hrest : Hid (AllDec (r.extract n R) ∧ (r.extract n R).size = R - n ∧ ∀ j, j < (r.extract n R).size → sd (r.extract n R) j = sd s (i + n + j)) := by
        have hsz : (r.extract n R).size = R - n := by rw [ByteArray.size_extract]; omega
        refine ⟨HS.out.1.extract n R (by omega), hsz, fun j hj => ?_⟩
        rw [hsz] at hj
        rw [sd_extract r n R (by omega) j (by omega), HS.out.2.1 (n + j) (by omega), Nat.add_assoc]
      have Hv : Hid (dv (sd (r.extract 0 n)) n < 4294967296 ∧ 1 ≤ 10 ^ n ∧ 10 ^ n < 4294967296) := by
        have h1 := dv_lt (sd_le Hst.out.1) n
        have h2 : 10 ^ n ≤ 10 ^ 9 := Nat.pow_le_pow_right (by omega) (by omega)
        have := tw_pos n
        exact ⟨by omega, by omega, by omega⟩
      go_wp2_with fail
      refine (readDigits_any _ _ (by rw [Hst.out.2.1]; omega) Hst.out.1).mono ?_
      rw [Hst.out.2.1]
      rintro e w2 ⟨rfl, rfl⟩
      generalize dv (sd (r.extract 0 n)) n = d at *
      obtain ⟨p, hp⟩ : ∃ p, 10 ^ n = p := ⟨_, rfl⟩
      rw [hp] at Hst Hv
      rw [hp]
      clear hp
      go_wp2_with fail
      refine (grow_any _ w1.heap.size k _ p d _ HS.out.2.2.1 HS.out.2.2.2.1 (by omega) Hv.out.2.1 Hv.out.2.2 Hv.out.1 HS.out.2.2.2.2.size).mono ?_
      rintro e w3 ⟨v2, k2, rfl, ho, hnr, hk2, hb3⟩
      obtain ⟨ad2, cap2, rfl⟩ : ∃ ad cap, v2 = .slice ad k2 cap := by obtain ⟨_, _, ad, cap, hv, _⟩ := ho.rowX; exact ⟨ad, cap, hv⟩
      rw [← Hst.out.2.2] at ho hnr
      have H2 : Hid (TextSt w1 s (r.extract n R) (i + n) k2 (.slice ad2 k2 cap2) w3) := ⟨Hrest.out.1, Hrest.out.2.2, ho, hnr, HS.out.2.2.2.2.trans hb3⟩
      have Hsz := hide Hrest.out.2.1
      clear ho hnr hb3 HS Hrest Hst Hv
      go_wp2_with fail
      go_roundw
      case rel => exact ⟨i + n, r.extract n R, k2, ad2, cap2, by omega, by omega, by rw [Hsz.out]; omega, rfl, rfl, H2⟩
      case measure => show (r.extract n R).size < r.size; rw [Hsz.out]; omega
    · have Hend : Hid ((k ≤ 8192 → i = L) ∧ (8192 < k → k = 8193)) := by refine ⟨fun h => by omega, fun h => by omega⟩
      have Hg : Hid (∀ c u, ∀ w3 : World, Told w3 w1.heap.size u c (dv (sd s) i) → Told w3 w1.heap.size u c (dv (sd s) s.size)) := by
        intro c u w3 ht
        by_cases hk8 : k ≤ 8192
        · rw [hL, ← Hend.out.1 hk8]; exact ht
        · have hnf : ¬ Fits (dv (sd s) i) := fun hf => hk8 (HS.out.2.2.2.1.fits.2 hf)
          rcases ht with ⟨h, _⟩ | ⟨_, h2, h3⟩
          · exact absurd h hnf
          · refine .inr ⟨fun hf => hnf (hf.le ?_), h2, h3⟩
            have := dv_mono (sd s) i (L - i)
            rw [show i + (L - i) = L from by omega] at this
            rw [hL]; exact this
      by_cases hR0 : 0 < R
      · have g1 : (0 : Int) < (R : Int) := by omega
        have g2 : ¬ (k : Int) ≤ 8192 := by omega
        go_wp2_with fail
        refine (tell_any _ k _ _ HS.out.2.2.1.rowX).mono ?_
        rintro e w3 ⟨u, c, rfl, ht, hb⟩
        have H3 : Hid (Told w3 w1.heap.size u c (dv (sd s) s.size) ∧ Below w1.heap.size w1 w3) := ⟨Hg.out c u w3 (ht.mono HS.out.2.2.2.2.size), HS.out.2.2.2.2.trans (hb.mono HS.out.2.2.2.2.size)⟩
        clear ht hb HS Hg
        go_wp2_with fail
        go_ret2
        exact ⟨u, c, rfl, H3.out⟩
      · obtain rfl : R = 0 := by omega
        go_wp2_with fail
        refine (tell_any _ k _ _ HS.out.2.2.1.rowX).mono ?_
        rintro e w3 ⟨u, c, rfl, ht, hb⟩
        have H3 : Hid (Told w3 w1.heap.size u c (dv (sd s) s.size) ∧ Below w1.heap.size w1 w3) := ⟨Hg.out c u w3 (ht.mono HS.out.2.2.2.2.size), HS.out.2.2.2.2.trans (hb.mono HS.out.2.2.2.2.size)⟩
        clear ht hb HS Hg
        go_wp2_with fail
        go_ret2
        exact ⟨u, c, rfl, H3.out⟩

end Go.Proofs.Ytfbkdjghbgdgpaa

/- What LimbForms wants of bytes and decimals: plain mathematics. -/
import Derived.Test.YtfbkdjghbgdgpabAI
import Derived.Test.YtfbkdjghbgdgpabAM
import Derived.Test.YtfbkdjghbgdgpabAO
import Derived.Test.YtfbkdjghbgdgpabAP
import Derived.Laws.Strings
namespace Go.Proofs.Ytfbkdjghbgdgpab
open Go.RowKit
open M
set_option linter.unusedVariables false
set_option linter.unusedSimpArgs false

theorem byte_len (N : Nat) : N < 256 ^ ((bitLen N + 7) / 8) ∧ (0 < (bitLen N + 7) / 8 → db N ((bitLen N + 7) / 8 - 1) ≠ 0) := by
  have hs := bitLen_spec N
  have e : ∀ n, 256 ^ n = 2 ^ (8 * n) := fun n => by rw [Nat.pow_mul]
  have h1 : N < 256 ^ ((bitLen N + 7) / 8) := by
    rw [e]; exact Nat.lt_of_lt_of_le hs.1 (Nat.pow_le_pow_right (by omega) (by omega))
  refine ⟨h1, fun h0 => ?_⟩
  have hN : N ≠ 0 := by rintro rfl; simp [bitLen] at h0
  have h2 : 256 ^ ((bitLen N + 7) / 8 - 1) ≤ N := by
    rw [e]; exact Nat.le_trans (Nat.pow_le_pow_right (by omega) (by omega)) (hs.2 hN)
  generalize (bitLen N + 7) / 8 = L at *
  obtain ⟨l, rfl⟩ : ∃ l, L = l + 1 := ⟨L - 1, by omega⟩
  rw [Nat.add_sub_cancel] at *
  unfold db
  have h3 : N / 256 ^ l < 256 := by rw [Nat.div_lt_iff_lt_mul (bp_pos _), Nat.mul_comm, ← Nat.pow_succ]; exact h1
  have h4 := Nat.div_pos h2 (bp_pos l)
  omega

theorem BytesOf.rowB {w : World} {base L N : Nat} {v : Value} (h : BytesOf w base v L N) (hN : N < 256 ^ L) : RowB w v L N := by
  obtain ⟨g, rfl, _, hg, hj⟩ := h
  exact ⟨hN, _, _, rfl, Nat.le_refl _, fun _ => ⟨g, 0, rfl, hg, fun j h => by rw [Nat.zero_add]; exact hj j h⟩⟩

theorem txt_sd (L N i : Nat) (h : i < L) : sd (strOf (txt L N)) i = d10 N (L - 1 - i) := by
  have hs : i < (strOf (txt L N)).size := by rw [strOf_size, txt_length]; exact h
  have hg := txt_get L N i h
  have hd := d10_lt N (L - 1 - i)
  unfold sd
  rw [dif_pos hs, strOf_get _ _ _ (by rw [hg]; omega), hg]
  omega

theorem txt_all (L N : Nat) : AllDec (strOf (txt L N)) := by
  intro k hk
  have h : k < L := by rw [strOf_size, txt_length] at hk; exact hk
  have hg := txt_get L N k h
  have hd := d10_lt N (L - 1 - k)
  rw [strOf_get _ _ _ (by rw [hg]; omega), hg]
  omega

theorem txt_dv (L N : Nat) (hN : N < 10 ^ L) : ∀ i, i ≤ L → dv (sd (strOf (txt L N))) i = N / 10 ^ (L - i)
  | 0, _ => by rw [Nat.sub_zero, Nat.div_eq_of_lt hN]; rfl
  | i + 1, h => by
    show dv _ i * 10 + sd _ i = _
    rw [txt_dv L N hN i (by omega), txt_sd L N i (by omega), show L - 1 - i = L - (i + 1) from by omega, show L - i = L - (i + 1) + 1 from by omega, Nat.pow_succ, ← Nat.div_div_eq_div_mul]
    unfold d10
    omega

theorem txt_val {L N : Nat} (h : Dec0 L N) : dv (sd (strOf (txt L N))) (strOf (txt L N)).size = N := by
  rw [strOf_size, txt_length, txt_dv L N h.1 L (Nat.le_refl _), Nat.sub_self, Nat.pow_zero, Nat.div_one]

theorem txt_dec {L N : Nat} (h : Dec0 L N) : IsDec (strOf (txt L N)) := by
  refine ⟨txt_all L N, ?_⟩
  rcases h.2.2 with h1 | h1
  · left; rw [strOf_size, txt_length]; exact h1
  · by_cases e : L = 1
    · left; rw [strOf_size, txt_length]; exact e
    · right
      have hL := h.2.1
      refine ⟨by rw [strOf_size, txt_length]; omega, ?_⟩
      have hg := txt_get L N 0 hL
      have hd := d10_lt N (L - 1 - 0)
      rw [strOf_get _ _ _ (by rw [hg]; omega), hg]
      intro e2
      have e3 : d10 N (L - 1) = 0 := by rw [Nat.sub_zero] at e2; omega
      have := d10_drop (n := L - 1) (N := N) (by rw [Nat.sub_add_cancel hL]; exact h.1) e3
      omega

theorem txt_last {L N : Nat} (h : Dec0 L N) (hl : L - 1 < (strOf (txt L N)).size) : ((strOf (txt L N))[L - 1]'hl).toNat = 48 + N % 10 := by
  have hL := h.2.1
  have hg := txt_get L N (L - 1) (by omega)
  have hd := d10_lt N (L - 1 - (L - 1))
  rw [strOf_get _ _ _ (by rw [hg]; omega), hg]
  rw [Nat.sub_self]
  simp [d10]

theorem txt_cons (L N : Nat) : txt (L + 1) N = (48 + d10 N L) :: txt L N := by
  unfold txt
  rw [List.range_succ_eq_map, List.map_cons, List.map_map]
  simp only [Nat.add_sub_cancel, Nat.sub_zero, List.cons.injEq, true_and]
  apply List.map_congr_left
  intro i hi
  have := List.mem_range.1 hi
  show 48 + d10 N (L - (i + 1)) = 48 + d10 N (L - 1 - i)
  rw [show L - (i + 1) = L - 1 - i from by omega]

theorem strOf_toList (bs : List Nat) : (strOf bs).toList = bs.map UInt8.ofNat := by
  rw [ByteArray.toList_eq]
  simp [strOf, strOfNums]

theorem tmod_succ (N L : Nat) : N % 10 ^ (L + 1) = N % 10 ^ L + 10 ^ L * d10 N L := Nat.mod_pow_succ

theorem txt_less (A B : Nat) : ∀ L, Op.bytesLess ((txt L A).map UInt8.ofNat) ((txt L B).map UInt8.ofNat) = decide (A % 10 ^ L < B % 10 ^ L)
  | 0 => by simp [txt, Op.bytesLess, Nat.mod_one]
  | L + 1 => by
    rw [txt_cons, txt_cons, List.map_cons, List.map_cons]
    show (decide (UInt8.ofNat (48 + d10 A L) < UInt8.ofNat (48 + d10 B L)) || (UInt8.ofNat (48 + d10 A L) == UInt8.ofNat (48 + d10 B L) && Op.bytesLess _ _)) = _
    rw [txt_less A B L, tmod_succ, tmod_succ]
    have ha := d10_lt A L
    have hb := d10_lt B L
    have hA := Nat.mod_lt A (tw_pos L)
    have hB := Nat.mod_lt B (tw_pos L)
    generalize A % 10 ^ L = x at *
    generalize B % 10 ^ L = y at *
    generalize d10 A L = a at *
    generalize d10 B L = b at *
    generalize 10 ^ L = p at *
    have hlt : (UInt8.ofNat (48 + a) < UInt8.ofNat (48 + b)) ↔ a < b := by
      rw [UInt8.lt_iff_toNat_lt]; simp only [UInt8.toNat_ofNat']; omega
    have heq : (UInt8.ofNat (48 + a) = UInt8.ofNat (48 + b)) ↔ a = b := by
      rw [← UInt8.toNat_inj]; simp only [UInt8.toNat_ofNat']; omega
    rcases Nat.lt_trichotomy a b with h | h | h
    · have h2 : p * (a + 1) ≤ p * b := Nat.mul_le_mul_left _ h
      rw [Nat.mul_add, Nat.mul_one] at h2
      simp only [hlt, h, decide_true, Bool.true_or]
      symm; rw [decide_eq_true_iff]; omega
    · subst h
      simp [hlt]
    · have h2 : p * (b + 1) ≤ p * a := Nat.mul_le_mul_left _ h
      rw [Nat.mul_add, Nat.mul_one] at h2
      have h3 : ¬ a < b := by omega
      have h4 : ¬ a = b := by omega
      have h5 : (UInt8.ofNat (48 + a) == UInt8.ofNat (48 + b)) = false := by rw [beq_eq_false_iff_ne]; exact fun e => h4 (heq.1 e)
      rw [h5]
      simp only [hlt, h3, decide_false, Bool.false_and, Bool.or_false]
      symm; rw [decide_eq_false_iff_not]; omega

theorem str_less {L A B : Nat} (h : Dec0 L A) (h' : Dec0 L B) : Op.bytesLess (strOf (txt L A)).toList (strOf (txt L B)).toList = decide (A < B) := by
  rw [strOf_toList, strOf_toList, txt_less, Nat.mod_eq_of_lt h.1, Nat.mod_eq_of_lt h'.1]

theorem str_same {L L' A B : Nat} (h : Dec0 L A) (h' : Dec0 L' B) : ((strOf (txt L A)).toList == (strOf (txt L' B)).toList) = decide (A = B) := by
  by_cases e : A = B
  · subst e
    rw [h.uniq h']
    simp
  · rw [decide_eq_false e, beq_eq_false_iff_ne]
    intro h2
    rw [ByteArray.toList_eq, ByteArray.toList_eq] at h2
    have h3 : strOf (txt L A) = strOf (txt L' B) := ByteArray.ext (Array.toList_inj.1 h2)
    apply e
    rw [← txt_val h, ← txt_val h', h3]

theorem dec_len {L L' A B : Nat} (h : Dec0 L A) (h' : Dec0 L' B) (hl : L < L') : A < B := by
  have h1 := h.2.1
  rcases h'.2.2 with h2 | h2
  · omega
  · exact Nat.lt_of_lt_of_le h.1 (Nat.le_trans (Nat.pow_le_pow_right (by omega) (by omega)) h2)

theorem dec_tenth {L N : Nat} (h : Dec0 (L + 1) N) (hL : 0 < L) : Dec0 L (N / 10) := by
  refine ⟨by rw [Nat.div_lt_iff_lt_mul (by omega), ← Nat.pow_succ]; exact h.1, hL, .inr ?_⟩
  rcases h.2.2 with h2 | h2
  · omega
  · rw [Nat.le_div_iff_mul_le (by omega), ← Nat.pow_succ, show (L - 1).succ = L + 1 - 1 from by omega]; exact h2

theorem dec_bound {L N k : Nat} (h : Dec0 L N) (hN : N < 4294967296 ^ k) : L ≤ 10 * k + 1 := by
  rcases Nat.lt_or_ge (10 * k + 1) L with h1 | h1
  · exfalso
    rcases h.2.2 with h2 | h2
    · omega
    · have h3 : 10 ^ (10 * k) ≤ 10 ^ (L - 1) := Nat.pow_le_pow_right (by omega) (by omega)
      have h4 : 4294967296 ^ k ≤ (10 ^ 10) ^ k := Nat.pow_le_pow_left (by decide) k
      rw [← Nat.pow_mul] at h4
      omega
  · exact h1

theorem bytes_num {v : Value} {A Lb : Nat} {w : World} (h : Num w v A) (hL : (bitLen A + 7) / 8 = Lb) :
    Calls Try.prog 17 #[v] w fun e w' => ∃ g, e = .returned (.slice (some ⟨g, 0, none⟩) Lb Lb) ∧ RowB w' (.slice (some ⟨g, 0, none⟩) Lb Lb) Lb A ∧ Below w.heap.size w w' := by
  obtain ⟨k, h1, h2, h3⟩ := h
  refine (Bytes_row v k A w h1 h2 h3).mono ?_
  rintro e w' ⟨r, rfl, hb, hbl⟩
  rw [hL] at hb
  have hr := hb.rowB (by rw [← hL]; exact (byte_len A).1)
  obtain ⟨g, rfl, _⟩ := hb
  exact ⟨g, rfl, hr, hbl⟩

theorem ofbytes_num {v : Value} {A Lb : Nat} {w : World} (h : RowB w v Lb A) (hL : (bitLen A + 7) / 8 = Lb) (hl : Lb ≤ 32768) :
    Calls Try.prog 16 #[v] w fun e w' => ∃ r, e = .returned (.tuple #[r, .int .i64 0]) ∧ Num w' r A ∧ Below w.heap.size w w' :=
  OfBytes_ok v Lb A w h hl (by rw [← hL]; exact (byte_len A).2)

theorem oftext_num {A L : Nat} (w : World) (h : Dec0 L A) (hl : L ≤ 9223372036854775807) (hf : Fits A) :
    Calls Try.prog 18 #[.string (strOf (txt L A))] w fun e w' => ∃ r, e = .returned (.tuple #[r, .int .i64 0]) ∧ Num w' r A ∧ Below w.heap.size w w' := by
  refine (OfText_dec _ w (by rw [strOf_size, txt_length]; exact hl) (txt_dec h)).mono ?_
  rintro e w' ⟨r, c, rfl, ht, hb⟩
  rw [txt_val h] at ht
  obtain ⟨rfl, n, ho, hn⟩ := ht.ok hf
  exact ⟨r, rfl, ho.num hn hf, hb⟩

theorem len_num {v : Value} {A b : Nat} {w : World} (h : Num w v A) (hb : bitLen A = b) :
    Calls Try.prog 20 #[v] w fun e w' => e = .returned (.int .i64 b) ∧ Below w.heap.size w w' := by
  obtain ⟨k, h1, h2, h3⟩ := h
  refine (Len_row v k A w h1 h2 h3).mono ?_
  rintro e w' ⟨rfl, rfl⟩
  exact ⟨by rw [hb], Below.refl _ _⟩

theorem small_num {v : Value} {A : Nat} {w : World} (h : Num w v A) (hA : A < 4294967296) :
    Calls Try.prog 21 #[v] w fun e w' => e = .returned (.tuple #[.int .u64 A, .bool true]) ∧ Below w.heap.size w w' := by
  obtain ⟨k, h1, h2, h3⟩ := h
  exact Small_row v k A w h1 h2 (Nat.le_trans (h2.le (m := 1) (by omega)) (by omega))

theorem txt_snoc (N : Nat) : ∀ L, txt (L + 1) N = txt L (N / 10) ++ [48 + N % 10]
  | 0 => by simp [txt, d10]
  | L + 1 => by
    rw [txt_cons, txt_snoc N L, txt_cons L (N / 10)]
    have : d10 N (L + 1) = d10 (N / 10) L := by unfold d10; rw [Nat.div_div_eq_div_mul, ← Nat.pow_succ']
    rw [this]; rfl

theorem txt_cut (N L : Nat) : (strOf (txt (L + 1) N)).extract 0 L = strOf (txt L (N / 10)) := by
  refine ByteArray.ext (Array.toList_inj.1 ?_)
  rw [ByteArray.data_extract, Array.toList_extract]
  have e : ∀ bs, (strOf bs).data.toList = bs.map UInt8.ofNat := fun bs => by rw [← ByteArray.toList_eq]; exact strOf_toList bs
  rw [e, e, txt_snoc]
  simp

end Go.Proofs.Ytfbkdjghbgdgpab

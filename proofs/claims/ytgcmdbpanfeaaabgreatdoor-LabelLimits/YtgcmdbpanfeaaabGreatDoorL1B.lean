/- The front of a text, values. -/
import Derived.Test.YtgcmdbpanfeaaabGreatDoorL1A
import Derived.Test.YtgcmdbpanfeaaabGreatDoorL0U
namespace Go.Proofs.YtgcmdbpanfeaaabGreatDoor
open Go.RowKit
set_option linter.unusedVariables false
set_option linter.unusedSimpArgs false

/-- The library's two tables of UTF-8 lie. -/
def UT (w : World) : Prop := Lib.Utf8Tabs 1 2 w

theorem UT.below {w w' : World} (h : UT w) (hb : Below w.heap.size w w') : UT w' :=
  ⟨fun c hc => by rw [hb.cell (p := ⟨1, c, none⟩) (block_lt_of_cell (h.1 c hc))]; exact h.1 c hc,
   fun i hi => ⟨by rw [hb.cell (p := ⟨2, 2 * i, none⟩) (block_lt_of_cell (h.2 i hi).1)]; exact (h.2 i hi).1,
     by rw [hb.cell (p := ⟨2, 2 * i + 1, none⟩) (block_lt_of_cell (h.2 i hi).2)]; exact (h.2 i hi).2⟩⟩

theorem bytesN_get (s : ByteArray) (i : Nat) : (s.get! i).toNat = (bytesN s).getD i 0 := by
  by_cases h : i < s.size
  · rw [bytesN_getD s i h]
    have h' : i < s.data.size := h
    show (s.data[i]!).toNat = _
    rw [getElem!_pos s.data i h']; rfl
  · have h' : ¬ i < s.data.size := h
    show (s.data[i]!).toNat = _
    rw [getElem!_neg s.data i h', List.getD_eq_getElem?_getD, List.getElem?_eq_none (by simp; omega)]; rfl

theorem decodeGo_eq (s : ByteArray) (h : s.size ≠ 0) : Lib.decodeGo s = decL (bytesN s) := by
  rw [Lib.decodeGo, if_neg h, Lib.decode_at]
  unfold decL
  simp only [bytesN_get, bytesN_length, Nat.sub_zero, Nat.zero_add]

/-- Are the bytes at the front good? -/
def goodL (l : List Nat) : Bool := decide ((decL l).1 ≠ 65533) || decide (1 < (decL l).2)

set_option maxRecDepth 100000 in
theorem front_any (s : ByteArray) (w : World) (h0 : s.size ≠ 0) (hT : UT w) :
    Calls Tryz.prog 44 #[.string s] w fun e w' => e = .returned (.tuple #[.int .i32 ((decL (bytesN s)).1 : Nat), .int .i64 ((decL (bytesN s)).2 : Nat), .bool (goodL (bytesN s))]) ∧ Below w.heap.size w w' := by
  have HD : Hid (∀ w, UT w → Calls Tryz.prog 70 #[.string s] w fun e w' => e = .returned (.tuple #[.int .i32 ((decL (bytesN s)).1 : Nat), .int .i64 ((decL (bytesN s)).2 : Nat)]) ∧ Below w.heap.size w w') := fun w hT => by
    rw [← decodeGo_eq s h0]
    exact lay_utf8_DecodeRuneInString s w hT
  have HT := hide hT
  obtain ⟨R, hR⟩ : ∃ R, (decL (bytesN s)).1 = R := ⟨_, rfl⟩
  obtain ⟨Z, hZ⟩ : ∃ Z, (decL (bytesN s)).2 = Z := ⟨_, rfl⟩
  rw [hR, hZ] at HD ⊢
  have HG : Hid (goodL (bytesN s) = (decide (R ≠ 65533) || decide (1 < Z))) := by unfold goodL; rw [hR, hZ]; exact rfl
  rw [HG.out]
  clear hT hR hZ
  by_cases h1 : R = 65533
  · subst h1
    go_enter Tryz.func44, Tryz.ntmps44
    go_wp2_with (go_at_call 70; refine (HD.out _ HT.out).mono ?_; rintro e w2 ⟨rfl, hb⟩)
    go_ret3
    refine ⟨?_, hb⟩
    rw [show (decide (65533 ≠ 65533) || decide (1 < Z)) = decide ((1 : Int) < (Z : Int)) by simp; omega]
    rfl
  · have h1z : ¬ (R : Int) = 65533 := by omega
    go_enter Tryz.func44, Tryz.ntmps44
    go_wp2_with (go_at_call 70; refine (HD.out _ HT.out).mono ?_; rintro e w2 ⟨rfl, hb⟩)
    go_ret3
    refine ⟨?_, hb⟩
    rw [show (decide (R ≠ 65533) || decide (1 < Z)) = true by simp [h1]]
    rfl

/-- Are all bytes good UTF-8? -/
def valF : Nat → List Nat → Bool
  | 0, l => l.isEmpty
  | _ + 1, [] => true
  | f + 1, c :: r => goodL (c :: r) && valF f ((c :: r).drop (decL (c :: r)).2)
/-- May a text be a label's value? -/
def valueOk (l : List Nat) : Bool := decide (l.length ≤ 256) && valF l.length l

theorem ne_nil_of_size {s : ByteArray} (h : s.size ≠ 0) : bytesN s ≠ [] := by
  intro e
  have := congrArg List.length e
  rw [bytesN_length] at this
  exact h this

set_option maxRecDepth 100000 in
theorem isValue_any (s : ByteArray) (w : World) (hT : UT w) (hs : s.size ≤ 1000000000000) :
    Calls Tryz.prog 37 #[.string s] w fun e w' => e = .returned (.bool (valueOk (bytesN s))) ∧ Below w.heap.size w w' := by
  have HT := hide hT
  have HS := hide hs
  clear hT hs
  by_cases h256 : s.size ≤ 256
  · have h256z : ¬ (256 : Int) < (s.size : Int) := by omega
    have HV : Hid (valueOk (bytesN s) = valF (bytesN s).length (bytesN s)) := by
      unfold valueOk; rw [bytesN_length, decide_eq_true h256]; rfl
    rw [HV.out]
    obtain ⟨V, hV⟩ : ∃ V, valF (bytesN s).length (bytesN s) = V := ⟨_, rfl⟩
    have HV0 : Hid (∃ f, (bytesN s).length ≤ f ∧ valF f (bytesN s) = V) := ⟨_, Nat.le_refl _, hV⟩
    rw [hV]
    clear hV HV
    go_enter Tryz.func37, Tryz.ntmps37
    go_wp2_with fail
    go_loopw [0] (fun t wr => ∃ s2 : ByteArray, t = .string s2 ∧ Hid (s2.size ≤ 1000000000000 ∧ Below w.heap.size w wr ∧ ∃ f, (bytesN s2).length ≤ f ∧ valF f (bytesN s2) = V)) (fun t _ => (match t with | .string s2 => s2.size | _ => 0))
    case atStart => exact ⟨s, rfl, HS.out, Below.refl _ _, HV0.out⟩
    case round =>
      obtain ⟨s2, rfl, HI⟩ := hrel
      by_cases h0 : s2.size = 0
      · have e := str_empty h0
        subst e
        have hv : V = true := by
          obtain ⟨f, _, h⟩ := HI.out.2.2
          rw [← h]; cases f <;> rfl
        subst hv
        have HB := hide HI.out.2.1
        go_wp2_with fail
        go_ret
        exact ⟨rfl, HB.out⟩
      · have hne := str_nonempty h0
        have hne' : ¬ s2.toList = [] := by simpa using hne
        have h1 := decL_size (bytesN s2) (ne_nil_of_size h0) (bytesN_lt s2)
        rw [bytesN_length] at h1
        obtain ⟨Z, hZ⟩ : ∃ Z, (decL (bytesN s2)).2 = Z := ⟨_, rfl⟩
        rw [hZ] at h1
        obtain ⟨G, hG⟩ : ∃ G, goodL (bytesN s2) = G := ⟨_, rfl⟩
        have HF : Hid (∀ w, UT w → Calls Tryz.prog 44 #[.string s2] w fun e w' => e = .returned (.tuple #[.int .i32 ((decL (bytesN s2)).1 : Nat), .int .i64 (Z : Nat), .bool G]) ∧ Below w.heap.size w w') := by
          rw [← hZ, ← hG]; exact fun w h => front_any s2 w h0 h
        have HN : Hid (∃ f, (bytesN s2).length - Z ≤ f ∧ (G && valF f ((bytesN s2).drop Z)) = V) := by
          obtain ⟨f, hf, h⟩ := HI.out.2.2
          obtain ⟨c, r, e⟩ : ∃ c r, bytesN s2 = c :: r := by
            cases hc : bytesN s2 with
            | nil => exact absurd hc (ne_nil_of_size h0)
            | cons c r => exact ⟨c, r, rfl⟩
          cases f with
          | zero => rw [e] at hf; simp at hf
          | succ f => 
            refine ⟨f, by omega, ?_⟩
            rw [← h, ← hZ, ← hG]
            rw [e]; rfl
        have HI2 := hide (And.intro HI.out.1 HI.out.2.1)
        have HZs : Hid (1 ≤ Z ∧ Z ≤ s2.size) := ⟨h1.1, h1.2.1⟩
        have hz1 : (0 : Int) ≤ (Z : Int) := by omega
        have hz2 : (Z : Int) ≤ (s2.size : Int) := by omega
        clear h1 hZ hG HI HV0
        cases G with
        | true =>
          go_wp2_with (go_at_call 44; refine (HF.out _ (HT.out.below HI2.out.2)).mono ?_; rintro e w2 ⟨rfl, hb⟩; have HB2 := hide (HI2.out.2.trans (hb.mono HI2.out.2.size)); clear hb)
          have hsz : (s2.extract Z s2.size).size = s2.size - Z := by simp
          refine ⟨⟨_, rfl, hide ⟨by rw [hsz]; have := HI2.out.1; omega, HB2.out, ?_⟩⟩, ?_⟩
          · obtain ⟨f, hf, h⟩ := HN.out
            refine ⟨f, by rw [bytesN_length, hsz]; rw [bytesN_length] at hf; exact hf, ?_⟩
            rw [bytesN_from]; exact h
          · show (s2.extract Z s2.size).size < s2.size
            rw [hsz]; have := HZs.out; omega
        | false =>
          have hv : V = false := by
            obtain ⟨f, _, h⟩ := HN.out
            rw [← h]; rfl
          subst hv
          go_wp2_with (go_at_call 44; refine (HF.out _ (HT.out.below HI2.out.2)).mono ?_; rintro e w2 ⟨rfl, hb⟩; have HB2 := hide (HI2.out.2.trans (hb.mono HI2.out.2.size)); clear hb)
          go_ret
          exact ⟨rfl, HB2.out⟩
  · have h256z : (256 : Int) < (s.size : Int) := by omega
    have HV : Hid (valueOk (bytesN s) = false) := by
      unfold valueOk; rw [bytesN_length, decide_eq_false h256]; rfl
    rw [HV.out]
    go_enter Tryz.func37, Tryz.ntmps37
    go_wp2_with fail
    go_ret
    exact ⟨rfl, Below.refl _ _⟩

end Go.Proofs.YtgcmdbpanfeaaabGreatDoor

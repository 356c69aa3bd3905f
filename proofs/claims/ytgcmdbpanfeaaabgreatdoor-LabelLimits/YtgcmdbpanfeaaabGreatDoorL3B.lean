/- The key of a set. -/
import Derived.Test.YtgcmdbpanfeaaabGreatDoorL2C
import Derived.Test.YtgcmdbpanfeaaabGreatDoorL1W
import Derived.Test.YtgcmdbpanfeaaabGreatDoorL0S
namespace Go.Proofs.YtgcmdbpanfeaaabGreatDoor
open Go.RowKit
set_option linter.unusedVariables false
set_option linter.unusedSimpArgs false

/-- How far the library's search goes lies. -/
def MX (w : World) : Prop := ∃ m : Int, w.cell? ⟨0, 0, none⟩ = some (.int .i64 m)

theorem MX.below {w w' : World} (h : MX w) (hb : Below w.heap.size w w') : MX w' := by
  obtain ⟨m, h1⟩ := h
  exact ⟨m, by rw [hb.cell (p := ⟨0, 0, none⟩) (block_lt_of_cell h1)]; exact h1⟩

/-- A value in a key. -/
def esc0 (s : ByteArray) : ByteArray := ⟨(Lib.replaceAll s.data.toList [0] [0, 255]).toArray⟩

/-- A label in a key. -/
def keyB (x : Lab) : List Nat := bytesN x.1 ++ [0] ++ bytesN (esc0 x.2) ++ [0, 1]
def keyL (L : List Lab) : List Nat := L.flatMap keyB

theorem replaceAll_any (s : ByteArray) (w : World) (hs : s.size ≤ 1000000000) (hM : MX w) : Calls Tryz.prog 53 #[.string s, .string ⟨#[0]⟩, .string ⟨#[0, 255]⟩] w fun e w' => e = .returned (.string (esc0 s)) ∧ Below w.heap.size w w' := by
  obtain ⟨m, hm⟩ := hM
  have hc := Lib.countB_le (⟨#[0]⟩ : ByteArray) (by decide) s.size s (Nat.le_refl _)
  have h2 : (⟨#[0, 255]⟩ : ByteArray).size = 2 := rfl
  exact lay_strings_ReplaceAll s ⟨#[0]⟩ ⟨#[0, 255]⟩ m w (by omega) hm (by decide) (by rw [h2]; omega)

theorem bytesN_append (a b : ByteArray) : bytesN (a ++ b) = bytesN a ++ bytesN b := by
  unfold bytesN
  rw [ByteArray.data_append, Array.toList_append, List.map_append]

theorem OB.keepOther {B : Nat} {w0 wr w' : World} {ys : List Nat} {v : Value} (h : OB B w0 ys v wr) (hg : wr.grownBy w' v.ownBlock) {j : Nat} {o : Obj} (hj : wr.heap[j]? = some o) (ho : ∀ c fz, o ≠ .cells c 5 fz) : w'.heap[j]? = some o := by
  rw [hg.block j (size_lt_of_row hj) ?_]
  · exact hj
  · intro e
    rcases h.own.2 with ⟨h1, _⟩ | ⟨g, cap, cur, h1, _, h2, _⟩
    · rw [h1] at e; cases e
    · rw [h1] at e
      have eg : g = j := (Option.some.inj (show some g = some j from e.symm))
      rw [eg, hj] at h2
      exact ho _ _ (Option.some.inj h2)

set_option maxRecDepth 100000 in
theorem wp_app_strK {ops : Array Oper} {rest : List Oper} {o : Oper} {a : Act} {Q : Exit → Act → World → Prop} (hgd : o.guard = none) (sl x : Operand)
    (ho : o.op = .call { callee := .builtin .append, args := #[sl, x], argTypes := #[42, 9] }) (B : Nat) (w0 wr : World) (ys : List Nat) (v : Value) (s : ByteArray)
    (h : OB B w0 ys v wr) (hs : a.eval sl = v) (hx : a.eval x = .string s) (hlen : ys.length + s.size ≤ 140737488355328)
    (k : ∀ v' w', OB B w0 (ys ++ bytesN s) v' w' → (∀ (j : Nat) (o : Obj), wr.heap[j]? = some o → (∀ c fz, o ≠ .cells c 5 fz) → w'.heap[j]? = some o) → wpList Tryz.prog ops Q rest (a.put o.dst v') w') : wpList Tryz.prog ops Q (o :: rest) a wr := by
  obtain ⟨i5, hi⟩ := info5
  refine Lib.wpList_append_own_string _ hgd sl x _ _ ho B 5 i5 Tryz.underlying42 Tryz.underlying9 hi.1 hi.2.1 hi.2.2.1 hi.2.2.2 v ys.length (bytesV ys) hs h.own s hx (by unfold maxLen; omega) hlen (Nat.le_trans h.le h.bel.size) ?_
  intro v' w' ho' hg _
  exact k v' w' (h.more (by rw [bytesN_length, ← strCells_eq]; exact ho') hg) fun j o hj hne => h.keepOther hg hj hne

/-- What Key tells of labels of which it is known whether they are a set. -/
theorem keyL_take (L : List Lab) (i : Nat) (h : i < L.length) : keyL (L.take (i + 1)) = keyL (L.take i) ++ keyB (L.getD i lab0) := by
  have e : L.take (i + 1) = L.take i ++ [L.getD i lab0] := by
    rw [List.take_add_one, List.getElem?_eq_getElem h]; simp [List.getD, h]
  rw [e]; simp [keyL]

theorem replaceK_le (k : Nat) : ∀ s : List UInt8, (Lib.replaceK [0] [0, 255] k s).length ≤ s.length + 2 * k := by
  induction k with
  | zero => intro s; simp [Lib.replaceK]
  | succ k ih =>
    intro s
    rw [Lib.replaceK]
    split
    · omega
    · have h := ih (s.drop ((Lib.index s [0]).toNat + [(0 : UInt8)].length))
      rw [List.length_drop] at h
      simp only [List.length_append, List.length_take, List.length_cons, List.length_nil] at h ⊢
      omega

theorem esc0_size (s : ByteArray) (hs : s.size ≤ 1000000000) : (esc0 s).size ≤ 4000000000 := by
  have h : (Lib.replaceAll s.data.toList [0] [0, 255]).length ≤ s.size + 2 * (s.size + 1) := by
    unfold Lib.replaceAll Lib.replace
    rw [if_neg (by decide)]
    have hc := Lib.count_le s.data.toList [0]
    have hk := replaceK_le (Lib.replaceNum s.data.toList [0] (-1)) s.data.toList
    have hn : Lib.replaceNum s.data.toList [0] (-1) = Lib.count s.data.toList [0] := by unfold Lib.replaceNum; rw [if_pos (.inl (by decide))]
    rw [hn] at hk ⊢
    have hl : s.data.toList.length = s.size := by rw [← Lib.size_eq]
    omega
  have e : (esc0 s).size = (Lib.replaceAll s.data.toList [0] [0, 255]).length := by unfold esc0; simp [ByteArray.size]
  omega

set_option maxRecDepth 100000 in
set_option maxHeartbeats 1000000 in
theorem keyOf_any (p : Option Addr) (n c : Nat) (L : List Lab) (w : World) (h : LR w p L) (hn : L.length = n) (hl : n ≤ 10000) (hs : ∀ x ∈ L, x.1.size ≤ 1000000000 ∧ x.2.size ≤ 1000000000) (hM : MX w) :
    Calls Tryz.prog 34 #[.slice p n c] w fun e w' => ∃ v, e = .returned v ∧ OB w.heap.size w (keyL L) v w' := by
  have HL := hide h
  have HN := hide hn
  have HM := hide hM
  have HS : Hid (∀ i, (L.getD i lab0).1.size ≤ 1000000000 ∧ (L.getD i lab0).2.size ≤ 1000000000) := by
    intro i
    by_cases hi : i < L.length
    · have e : L.getD i lab0 = L[i] := by simp [List.getD, hi]
      rw [e]; exact hs _ (List.getElem_mem hi)
    · have e : L.getD i lab0 = lab0 := by simp [List.getD, hi]
      rw [e]; exact ⟨Nat.zero_le _, Nat.zero_le _⟩
  clear h hs hM
  have HO0 : Hid (OB w.heap.size w [] (.slice none 0 0) w) := OB.nil w
  go_enter Tryz.func34, Tryz.ntmps34
  go_wp2_with fail
  go_loopw [3, 8] (fun t3 t8 wr => ∃ i : Nat, i ≤ n ∧ t8 = .int .i64 i ∧ Hid (OB w.heap.size w (keyL (L.take i)) t3 wr ∧ (keyL (L.take i)).length ≤ 6000000000 * i)) (fun _ t8 _ => n - (intOf t8).toNat)
  case atStart => exact ⟨0, by omega, rfl, by rw [List.take_zero]; exact ⟨HO0.out, by simp [keyL]⟩⟩
  case round =>
    obtain ⟨i, hi, rfl, HI⟩ := hrel
    by_cases hlt : i < n
    · have hz : (i : Int) < (n : Int) := by omega
      have hil : i < L.length := by have := HN.out; omega
      have hlr := HL.out.below (w' := wr) HI.out.1.bel
      obtain ⟨b, o, rfl, hc⟩ := hlr (by omega)
      obtain ⟨e1, e2⟩ := hc i hil
      have hft := keyL_take L i hil
      have HS1 := hide (HS.out i)
      obtain ⟨X, hX⟩ : ∃ X, L.getD i lab0 = X := ⟨_, rfl⟩
      rw [hX] at e1 e2 hft HS1
      obtain ⟨x, y⟩ := X
      dsimp only at e1 e2 hft HS1
      have HA : Hid (OB w.heap.size w (keyL (L.take i)) u3 (wr.alloc (.cells #[.string x, .string y] 34))) := HI.out.1.below ((Below.refl _ _).alloc (Nat.le_refl _) _)
      have HK := hide HI.out.2
      obtain ⟨N, hN⟩ : ∃ N, keyL (L.take i) = N := ⟨_, rfl⟩
      rw [hN] at HA HK hft
      have HFT := hide hft
      have hKB : keyB (x, y) = bytesN x ++ [0] ++ bytesN (esc0 y) ++ [0, 1] := rfl
      rw [hKB] at HFT
      have HRp := hide (fun w h => replaceAll_any y w HS1.out.2 h)
      have HE0 := hide (esc0_size y HS1.out.2)
      clear hc hlr HI hX hft hN hKB
      have HX0 : Hid ((wr.alloc (.cells #[.string x, .string y] 34)).heap[wr.heap.size]? = some (.cells #[.string x, .string y] 34)) := heap_alloc_new wr _
      have hxs : x.size + 1 ≤ 9223372036854775807 := by have := HS1.out; omega
      have HZ1 : Hid ((⟨#[0]⟩ : ByteArray).size = 1 ∧ (⟨#[0, 1]⟩ : ByteArray).size = 2 ∧ (bytesN (⟨#[0]⟩ : ByteArray)).length = 1) := ⟨rfl, rfl, rfl⟩
      have hTy : Hid (∀ (c : Array Value) (fz : Nat × Nat), (Obj.cells #[.string x, .string y] 34) ≠ .cells c 5 fz) := hide (fun c fz e => by simp at e)
      go_wp2_with (first
        | (go_at_call 53; refine (HRp.out _ (HM.out.below HA1.out.1.bel)).mono ?_; rintro e w2 ⟨rfl, hb⟩; have HA2 := hide (HA1.out.1.below hb); clear hb)
        | (at_builtin; refine wp_app_strK rfl _ _ rfl w.heap.size w _ _ _ _ HA2.out rfl rfl (by have := HK.out; have := HS1.out; have := HE0.out; have := HZ1.out; simp only [List.length_append, bytesN_length, ByteArray.size_append]; omega) ?_; intro v6 w6 HO6 _; have HA3 := hide HO6)
        | (at_builtin; refine wp_app_strK rfl _ _ rfl w.heap.size w _ _ _ _ HA3.out rfl rfl (by have := HK.out; have := HS1.out; have := HE0.out; have := HZ1.out; simp only [List.length_append, bytesN_length, ByteArray.size_append]; omega) ?_; intro v6 w6 HO6 _; have HA4 := hide HO6)
        | (at_builtin; go_loud (refine wp_app_strK rfl _ _ rfl w.heap.size w _ N _ (x ++ ⟨#[0]⟩) HA.out rfl rfl (by have := HK.out; have := HS1.out; have := HZ1.out; rw [ByteArray.size_append]; omega) ?_; intro v6 w6 HO6 hk6; have hc6 := hk6 _ _ HX0.out hTy.out; have ex6 := cell_of_row w6 wr.heap.size 1 _ _ (0, 0) hc6; have HA1 := hide (And.intro HO6 hc6); clear hk6 hc6)))
      have HKL : Hid (keyL (L.take (i + 1)) = N ++ bytesN (x ++ ⟨#[0]⟩) ++ bytesN (esc0 y) ++ bytesN ⟨#[0, 1]⟩) := hide (by
        rw [HFT.out, bytesN_append]
        have e1 : bytesN ⟨#[0]⟩ = [0] := rfl
        have e2 : bytesN ⟨#[0, 1]⟩ = [0, 1] := rfl
        rw [e1, e2]; simp only [List.append_assoc])
      go_roundw
      case rel =>
        refine ⟨i + 1, by omega, by go_num, ?_⟩
        rw [HKL.out]
        refine ⟨HA4.out, ?_⟩
        have := HK.out; have := HS1.out; have := HE0.out; have := HZ1.out
        simp only [List.length_append, bytesN_length, ByteArray.size_append]
        omega
      case measure => simp [intOf]; omega
    · have hz : ¬ (i : Int) < (n : Int) := by omega
      have hin : i = n := by omega
      subst hin
      have HA := hide HI.out.1
      rw [List.take_of_length_le (by have := HN.out; omega)] at HA
      clear HI
      go_wp2_with fail
      go_ret
      exact ⟨_, rfl, HA.out⟩

/-- What Key tells. -/
def AnsKey (w : World) (R : Option (List Nat)) (e : Ending) (w' : World) : Prop :=
  match R with
  | none => e = .returned (.tuple #[.slice none 0 0, .int .i64 134]) ∧ Below w.heap.size w w'
  | some b => ∃ v, e = .returned (.tuple #[v, .int .i64 0]) ∧ OB w.heap.size w b v w'

set_option maxRecDepth 100000 in
theorem Key_any (p : Option Addr) (n c : Nat) (L : List Lab) (w : World) (h : LR w p L) (hn : L.length = n) (hl : n ≤ 10000) (hs : ∀ x ∈ L, x.1.size ≤ 1000000000 ∧ x.2.size ≤ 1000000000) (hT : UT w) (hM : MX w) :
    Calls Tryz.prog 19 #[.slice p n c] w fun e w' => AnsKey w (if setOk L = true then some (keyL L) else none) e w' := by
  have HS := hide (isSet_any p n c L w h hn (by omega) hs hT)
  have HK : Hid (∀ w2, Below w.heap.size w w2 → Calls Tryz.prog 34 #[.slice p n c] w2 fun e w' => ∃ v, e = .returned v ∧ OB w.heap.size w (keyL L) v w') := by
    intro w2 hb
    refine (keyOf_any p n c L w2 (h.below hb) hn hl hs (hM.below hb)).mono ?_
    rintro e w' ⟨v, rfl, ho⟩
    exact ⟨v, rfl, ⟨⟨ho.own.1, ho.own.2.imp id fun ⟨g, cap, cur, h1, h2, h3⟩ => ⟨g, cap, cur, h1, Nat.le_trans hb.size h2, h3⟩⟩, hb.trans (ho.bel.mono hb.size), Nat.le_refl _⟩⟩
  obtain ⟨S, hS⟩ : ∃ S, setOk L = S := ⟨_, rfl⟩
  rw [hS] at HS ⊢
  clear hS h hs hT hM hn
  cases S with
  | true =>
    go_enter Tryz.func19, Tryz.ntmps19
    go_wp2_with (first
      | (go_at_call 32; refine HS.out.mono ?_; rintro e w2 ⟨rfl, hb⟩; have HB := hide hb; clear hb)
      | (go_at_call 34; refine (HK.out _ HB.out).mono ?_; rintro e w3 ⟨v, rfl, ho⟩; have HO := hide ho; clear ho))
    go_ret2
    exact ⟨_, rfl, HO.out⟩
  | false =>
    go_enter Tryz.func19, Tryz.ntmps19
    go_wp2_with (go_at_call 32; refine HS.out.mono ?_; rintro e w2 ⟨rfl, hb⟩; have HB := hide hb; clear hb)
    go_ret2
    exact ⟨rfl, HB.out⟩

end Go.Proofs.YtgcmdbpanfeaaabGreatDoor

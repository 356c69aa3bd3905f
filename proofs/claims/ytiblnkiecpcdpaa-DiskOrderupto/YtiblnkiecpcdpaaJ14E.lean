/- The law of limits: its names, its files, as plain data. -/
import Derived.Test.YtiblnkiecpcdpaaJ14D
namespace Go.Proofs.Ytiblnkiecpcdpaa
open Go.RowKit
set_option linter.unusedVariables false
set_option linter.unusedSimpArgs false

theorem okN_of {s : ByteArray} (h1 : 1 ≤ s.size) (h2 : s.size ≤ 64) (h : ∀ b ∈ s.data.toList, 0 ≤ firstIdx letters b) : okN s := ⟨h1, h2, fun i hi => h _ (by
  show s.data[i] ∈ s.data.toList
  simp)⟩
theorem notOk_at {s : ByteArray} (i : Nat) (hi : i < s.size) (h : firstIdx letters (s[i]'hi) < 0) : ¬ okN s := fun e => by have := e.2.2 i hi; omega
theorem notOk_size {s : ByteArray} (h : s.size = 0 ∨ 64 < s.size) : ¬ okN s := fun e => by have := e.1; have := e.2.1; omega

def nmZ : ByteArray := { data := #[97, 45, 46, 95, 48, 57, 122] }
def nmM : ByteArray := { data := #[109, 111, 114, 101] }
def nmX : ByteArray := strOf (List.replicate 64 120)
def nmY : ByteArray := strOf (List.replicate 65 120)
def nameB (i : Nat) : ByteArray := ({ data := #[102] } : ByteArray) ++ strOf [97 + i / 26 % 26, 97 + i % 26]

theorem strOf_list (bs : List Nat) (h : ∀ n ∈ bs, n < 256) : (strOf bs).data.toList = bs.map fun n => UInt8.ofNat n := by
  unfold strOf strOfNums
  simp only [List.map_map]
  refine List.map_congr_left fun n hn => ?_
  simp

theorem nameB_list (i : Nat) : (nameB i).data.toList = [102, UInt8.ofNat (97 + i / 26 % 26), UInt8.ofNat (97 + i % 26)] := by
  have h := strOf_list [97 + i / 26 % 26, 97 + i % 26] (by intro n hn; simp at hn; omega)
  unfold nameB
  rw [ByteArray.data_append, Array.toList_append, h]
  rfl

theorem letter (k : Nat) (h : k < 26) : 0 ≤ firstIdx letters (UInt8.ofNat (97 + k)) := by
  have : ∀ j : Fin 26, 0 ≤ firstIdx letters (UInt8.ofNat (97 + j.val)) := by decide +kernel
  exact this ⟨k, h⟩

theorem size_list (s : ByteArray) : s.size = s.data.toList.length := by
  show s.data.size = _
  rw [Array.length_toList]

theorem okB (i : Nat) : okN (nameB i) := by
  have hs : (nameB i).size = 3 := by rw [size_list, nameB_list]; rfl
  refine okN_of (by omega) (by omega) fun b hb => ?_
  rw [nameB_list] at hb
  simp only [List.mem_cons, List.not_mem_nil, or_false] at hb
  rcases hb with rfl | rfl | rfl
  · decide +kernel
  · exact letter _ (Nat.mod_lt _ (by decide))
  · exact letter _ (Nat.mod_lt _ (by decide))

theorem okZ : okN nmZ := okN_of (by decide) (by decide) (by decide +kernel)
theorem okM : okN nmM := okN_of (by decide) (by decide) (by decide +kernel)
theorem okX : okN nmX := by
  have hs : nmX.size = 64 := by unfold nmX; rw [strOf_size]; simp
  refine okN_of (by omega) (by omega) fun b hb => ?_
  unfold nmX at hb
  rw [strOf_list _ (by intro n hn; rw [List.eq_of_mem_replicate hn]; decide)] at hb
  obtain ⟨n, hn, rfl⟩ := List.mem_map.1 hb
  rw [List.eq_of_mem_replicate hn]
  decide +kernel
theorem notY : ¬ okN nmY := notOk_size (.inr (by unfold nmY; rw [strOf_size]; simp))

theorem u8_inj {a b : Nat} (ha : a < 256) (hb : b < 256) (h : UInt8.ofNat a = UInt8.ofNat b) : a = b := by
  have := congrArg UInt8.toNat h
  simp at this
  omega

theorem nameB_inj {i j : Nat} (hi : i < 254) (hj : j < 254) (h : nameB i = nameB j) : i = j := by
  have h1 : (nameB i).data.toList = (nameB j).data.toList := by rw [h]
  rw [nameB_list, nameB_list] at h1
  simp only [List.cons.injEq, and_true, true_and] at h1
  have h2 := u8_inj (by omega) (by omega) h1.1
  have h3 := u8_inj (by omega) (by omega) h1.2
  omega

theorem size_ne {a b : ByteArray} (h : a.size ≠ b.size) : a ≠ b := fun e => h (by rw [e])
theorem nameB_size (i : Nat) : (nameB i).size = 3 := by rw [size_list, nameB_list]; rfl
theorem nmX_size : nmX.size = 64 := by unfold nmX; rw [strOf_size]; simp

/-- The names that may not be. -/
def badL : List ByteArray := [{ data := #[] }, { data := #[65] }, { data := #[97, 47, 98] }, { data := #[97, 32, 98] }, { data := #[128] }, nmY]
theorem bad_no : ∀ n ∈ badL, ¬ okN n ∧ n.size ≤ 140737488355328 := by
  intro n hn
  simp only [badL, List.mem_cons, List.not_mem_nil, or_false] at hn
  rcases hn with rfl | rfl | rfl | rfl | rfl | rfl
  · exact ⟨notOk_size (.inl rfl), by decide⟩
  · exact ⟨notOk_at 0 (by decide) (by decide +kernel), by decide⟩
  · exact ⟨notOk_at 1 (by decide) (by decide +kernel), by decide⟩
  · exact ⟨notOk_at 1 (by decide) (by decide +kernel), by decide⟩
  · exact ⟨notOk_at 0 (by decide) (by decide +kernel), by decide⟩
  · exact ⟨notY, by unfold nmY; rw [strOf_size]; simp⟩

/-- The files while they become more. -/
structure LimC (i : Nat) (c : Con) : Prop where
  len : c.length = i + 2
  ok : ∀ y ∈ c, okN y.1
  nms : ∀ y ∈ c, y.1 = nmX ∨ y.1 = nmZ ∨ ∃ j, j < i ∧ y.1 = nameB j
  has : c.has nmZ
  none_ : ∀ y ∈ c, y.1 ≠ nmZ → y.2.1 = []
  get : (Con.get c nmZ).1 = [120]

theorem app_newL {c : Con} {nm : ByteArray} (h : ∀ y ∈ c, y.1 ≠ nm) (bs : List Nat) : Con.app c nm bs = c ++ [(nm, bs, 0)] := (Con.app_new h bs).symm

theorem LimC.start : LimC 0 (Con.app (Con.app [] nmX []) nmZ [120]) := by
  have h0 : ∀ y ∈ ([] : Con), y.1 ≠ nmX := by simp
  rw [app_newL h0]
  have hxz : nmX ≠ nmZ := size_ne (by rw [nmX_size]; decide)
  have h1 : ∀ y ∈ ([] ++ [(nmX, [], 0)] : Con), y.1 ≠ nmZ := by simpa using hxz
  rw [app_newL h1]
  refine ⟨rfl, ?_, ?_, ⟨(nmZ, [120], 0), by simp, rfl⟩, ?_, ?_⟩
  · intro y hy
    simp at hy
    rcases hy with rfl | rfl
    · exact okX
    · exact okZ
  · intro y hy
    simp at hy
    rcases hy with rfl | rfl
    · exact .inl rfl
    · exact .inr (.inl rfl)
  · intro y hy hn
    simp at hy
    rcases hy with rfl | rfl
    · rfl
    · exact absurd rfl hn
  · rw [get_more _ _ _ h1, if_pos rfl]

theorem LimC.new {i : Nat} {c : Con} (h : LimC i c) (hi : i < 254) : ∀ y ∈ c, y.1 ≠ nameB i := fun y hy e => by
  rcases h.nms y hy with k | k | ⟨j, hj, k⟩
  · rw [k] at e; exact size_ne (by rw [nmX_size, nameB_size]; decide) e
  · rw [k] at e; exact size_ne (by rw [nameB_size]; decide) e
  · rw [k] at e; have := nameB_inj (by omega) hi e; omega

theorem LimC.next {i : Nat} {c : Con} (h : LimC i c) (hi : i < 254) : LimC (i + 1) (Con.app c (nameB i) []) := by
  have hn := h.new hi
  have hz : nmZ ≠ nameB i := size_ne (by rw [nameB_size]; decide)
  rw [app_newL hn]
  refine ⟨by simp [h.len], fun y hy => ?_, fun y hy => ?_, ?_, fun y hy hne => ?_, ?_⟩
  · rcases List.mem_append.1 hy with hy | hy
    · exact h.ok y hy
    · rw [List.mem_singleton.1 hy]; exact okB i
  · rcases List.mem_append.1 hy with hy | hy
    · rcases h.nms y hy with k | k | ⟨j, hj, k⟩
      · exact .inl k
      · exact .inr (.inl k)
      · exact .inr (.inr ⟨j, by omega, k⟩)
    · rw [List.mem_singleton.1 hy]; exact .inr (.inr ⟨i, by omega, rfl⟩)
  · obtain ⟨y, hy, e⟩ := h.has
    exact ⟨y, by simp [hy], e⟩
  · rcases List.mem_append.1 hy with hy | hy
    · exact h.none_ y hy hne
    · rw [List.mem_singleton.1 hy]
  · rw [get_more _ _ _ hn, if_neg hz]; exact h.get

theorem LimC.more {c : Con} (h : LimC 254 c) : ¬ c.has nmM := fun ⟨y, hy, e⟩ => by
  rcases h.nms y hy with k | k | ⟨j, hj, k⟩
  · rw [k] at e; exact size_ne (by rw [nmX_size]; decide) e
  · rw [k] at e; exact size_ne (by decide) e
  · rw [k] at e; exact size_ne (by rw [nameB_size]; decide) e

/-- Where one file alone has bytes. -/
theorem tot_one {nm : ByteArray} : ∀ {c : Con}, (c.map (·.1)).Nodup → c.has nm → (∀ y ∈ c, y.1 ≠ nm → y.2.1 = []) → Con.tot c = (Con.get c nm).1.length
  | [], _, h, _ => by obtain ⟨y, hy, _⟩ := h; simp at hy
  | x :: c, hn, h, ho => by
    rw [List.map_cons, List.nodup_cons] at hn
    rw [Con.tot, get_cons]
    by_cases e : x.1 = nm
    · rw [if_pos e]
      have h0 : ∀ y ∈ c, y.2.1 = [] := fun y hy => ho y (by simp [hy]) fun e2 => hn.1 (List.mem_map.2 ⟨y, hy, e2.trans e.symm⟩)
      have h1 : ∀ d : Con, (∀ y ∈ d, y.2.1 = []) → Con.tot d = 0 := fun d => by
        induction d with
        | nil => intro _; rfl
        | cons z d ih => intro hd; rw [Con.tot, ih fun y hy => hd y (by simp [hy]), hd z (by simp)]; rfl
      rw [h1 c h0]; rfl
    · rw [if_neg e, ho x (by simp) e]
      have h2 : Con.has c nm := by
        obtain ⟨y, hy, e2⟩ := h
        rcases List.mem_cons.1 hy with h3 | hy
        · rw [h3] at e2; exact absurd e2 e
        · exact ⟨y, hy, e2⟩
      rw [tot_one hn.2 h2 fun y hy => ho y (by simp [hy])]
      simp

theorem drop_len {nm : ByteArray} : ∀ {c : Con}, (c.map (·.1)).Nodup → c.has nm → (Con.drop c nm).length + 1 = c.length
  | [], _, h => by obtain ⟨y, hy, _⟩ := h; simp at hy
  | x :: c, hn, h => by
    rw [List.map_cons, List.nodup_cons] at hn
    have e0 : Con.drop (x :: c) nm = if x.1 = nm then Con.drop c nm else x :: Con.drop c nm := by
      unfold Con.drop
      by_cases h : x.1 = nm <;> simp [List.filter, h]
    rw [e0]
    by_cases e : x.1 = nm
    · rw [if_pos e]
      have : Con.drop c nm = c := by
        unfold Con.drop
        rw [List.filter_eq_self]
        intro y hy
        simp only [decide_eq_true_eq, decide_not, Bool.not_eq_eq_eq_not, Bool.not_true, decide_eq_false_iff_not]
        exact fun e2 => hn.1 (List.mem_map.2 ⟨y, hy, e2.trans e.symm⟩)
      rw [this]; rfl
    · rw [if_neg e]
      have h2 : Con.has c nm := by
        obtain ⟨y, hy, e2⟩ := h
        rcases List.mem_cons.1 hy with h3 | hy
        · rw [h3] at e2; exact absurd e2 e
        · exact ⟨y, hy, e2⟩
      rw [List.length_cons, drop_len hn.2 h2, List.length_cons]

/-- At the end. -/
structure LimZ (c : Con) : Prop where
  len : c.length = 256
  ok : ∀ y ∈ c, okN y.1
  tot : Con.tot c = 2

theorem LimC.last {c : Con} (h : LimC 254 c) (hn : (c.map (·.1)).Nodup) : LimZ (Con.puts (Con.drop (Con.app c nmZ [121]) nmZ) nmM (Con.get (Con.app c nmZ [121]) nmZ)) := by
  have hap : Con.app c nmZ [121] = Con.upd c nmZ fun q => (q.1 ++ [121], q.2) := by
    unfold Con.app
    rw [if_pos ((any_has c nmZ).2 h.has)]
  have hnm : (Con.app c nmZ [121]).map (·.1) = c.map (·.1) := by
    rw [hap]
    unfold Con.upd
    rw [List.map_map]
    refine List.map_congr_left fun y _ => ?_
    show (if y.1 = nmZ then (y.1, y.2.1 ++ [121], y.2.2) else y).1 = y.1
    by_cases e : y.1 = nmZ <;> simp [e]
  have hg : (Con.get (Con.app c nmZ [121]) nmZ).1 = [120, 121] := by rw [get_app, if_pos rfl, h.get]; rfl
  obtain ⟨c1, hc1⟩ : ∃ c1, Con.app c nmZ [121] = c1 := ⟨_, rfl⟩
  have hmem : ∀ y ∈ c1, okN y.1 ∧ y.1 ≠ nmM ∧ (y.1 ≠ nmZ → y.2.1 = []) := fun y hy => by
    rw [← hc1, hap] at hy
    obtain ⟨x, hx, rfl⟩ := List.mem_map.1 hy
    by_cases e : x.1 = nmZ
    · rw [if_pos e]
      exact ⟨h.ok x hx, fun e2 => h.more ⟨x, hx, e2⟩, fun e2 => absurd e e2⟩
    · rw [if_neg e]
      exact ⟨h.ok x hx, fun e2 => h.more ⟨x, hx, e2⟩, fun e2 => h.none_ x hx e2⟩
  have hhas : Con.has c1 nmZ := by
    rw [← hc1, hap]
    obtain ⟨y, hy, e⟩ := h.has
    exact ⟨_, List.mem_map.2 ⟨y, hy, rfl⟩, by rw [if_pos e]; exact e⟩
  rw [hc1] at hg hnm ⊢
  have hd : ∀ y ∈ Con.drop c1 nmZ, y ∈ c1 ∧ y.1 ≠ nmZ := fun y hy => ⟨(List.mem_filter.1 hy).1, by simpa using (List.mem_filter.1 hy).2⟩
  have hno : ¬ Con.has (Con.drop c1 nmZ) nmM := fun ⟨y, hy, e⟩ => (hmem y (hd y hy).1).2.1 e
  have hp : Con.puts (Con.drop c1 nmZ) nmM (Con.get c1 nmZ) = Con.drop c1 nmZ ++ [(nmM, Con.get c1 nmZ)] := by
    unfold Con.puts
    rw [if_neg fun e => hno ((any_has _ nmM).1 e)]
  have hl1 : c1.length = 256 := by
    have := congrArg List.length hnm
    simp only [List.length_map] at this
    rw [this, h.len]
  have hdl := drop_len (by rw [hnm]; exact hn) hhas
  have h0 : ∀ d : Con, (∀ y ∈ d, y.2.1 = []) → ∀ z : ByteArray × List Nat × Nat, Con.tot (d ++ [z]) = z.2.1.length := fun d => by
    induction d with
    | nil => intro _ z; simp [Con.tot]
    | cons y d ih => intro hd z; rw [List.cons_append, Con.tot, ih (fun y hy => hd y (by simp [hy])) z, hd y (by simp)]; simp
  rw [hp]
  refine ⟨by rw [List.length_append, List.length_singleton]; omega, fun y hy => ?_, ?_⟩
  · rcases List.mem_append.1 hy with hy | hy
    · exact (hmem y (hd y hy).1).1
    · rw [List.mem_singleton.1 hy]; exact okM
  · rw [h0 _ (fun y hy => (hmem y (hd y hy).1).2.2 (hd y hy).2)]
    show (Con.get c1 nmZ).1.length = 2
    rw [hg]; rfl

theorem totB_perm {a b : List (ByteArray × List Nat)} (h : a.Perm b) : totB a = totB b := by
  induction h with
  | nil => rfl
  | cons x _ ih => simp only [totB, ih]
  | swap x y l => simp only [totB]; omega
  | trans _ _ h1 h2 => exact h1.trans h2

theorem totB_files {B : Nat} {w : World} {lk : Int} {S : DS} (h : Dk B w lk S) {ns : List ByteArray} (hp : ns.Perm (S.L.map (·.nm))) : totB (filesOf S ns) = Con.tot S.ps.con := by
  have h1 : (filesOf S ns).Perm (filesOf S (S.L.map (·.nm))) := hp.map _
  rw [totB_perm h1]
  have h2 : ∀ L : List Fi, (∀ x ∈ L, x ∈ S.L) → totB (filesOf S (L.map (·.nm))) = tot L := fun L => by
    induction L with
    | nil => intro _; rfl
    | cons x L ih =>
      intro hm
      have := ih fun y hy => hm y (by simp [hy])
      show (bytesOf S x.nm).length + totB (filesOf S (L.map (·.nm))) = _
      rw [this, bytes_of h (hm x (by simp)), tot]
  rw [h2 S.L fun x hx => hx, tot_con]
  rfl

end Go.Proofs.Ytiblnkiecpcdpaa

/- What the law finds among the files that the disk told. -/
import Derived.Test.YtlandfghodfjdaaGreatJ15D
import Derived.Test.YtlandfghodfjdaaGreatJ15B
import Derived.Test.YtlandfghodfjdaaGreatJ15M
namespace Go.Proofs.YtlandfghodfjdaaGreat
open Go.RowKit
set_option linter.unusedVariables false
set_option linter.unusedSimpArgs false

theorem lookF_some : ∀ (fs : List (ByteArray × List Nat)) (us : List Value) (n : ByteArray), us.length = fs.length → (∃ x ∈ fs, x.1 = n) → ∃ u, lookF fs us n = some u
  | [], _, _, _, ⟨x, hx, _⟩ => by simp at hx
  | _ :: _, [], _, h, _ => by simp at h
  | y :: fs, u :: us, n, h, ⟨x, hx, e⟩ => by
    unfold lookF
    by_cases h1 : y.1 = n
    · exact ⟨u, if_pos h1⟩
    · rw [if_neg h1]
      rcases List.mem_cons.1 hx with h2 | h2
      · exact absurd (h2 ▸ e) h1
      · exact lookF_some fs us n (by simpa using h) ⟨x, h2, e⟩

theorem lookF_none : ∀ (fs : List (ByteArray × List Nat)) (us : List Value) (n : ByteArray), (∀ x ∈ fs, x.1 ≠ n) → lookF fs us n = none
  | [], [], _, _ => rfl
  | [], _ :: _, _, _ => rfl
  | _ :: _, [], _, _ => rfl
  | y :: fs, u :: us, n, h => by
    unfold lookF
    rw [if_neg (h y (List.mem_cons_self ..))]
    exact lookF_none fs us n fun x hx => h x (List.mem_cons_of_mem _ hx)

theorem lookB_of (S : DS) (n : ByteArray) : ∀ ns : List ByteArray, n ∈ ns → lookB (filesOf S ns) n = bytesOf S n
  | [], h => by simp at h
  | m :: ns, h => by
    unfold lookB filesOf
    rw [List.map_cons, List.find?_cons]
    by_cases h1 : m = n
    · subst h1; simp
    · have h2 : n ∈ ns := by
        rcases List.mem_cons.1 h with h | h
        · exact absurd h.symm h1
        · exact h
      have := lookB_of S n ns h2
      unfold lookB filesOf at this
      simp only [h1, decide_false]
      exact this

section
variable {B : Nat} {w : World} {S : DS} {v : Value} {ys : List Value} {ns : List ByteArray}

theorem got_has (hg : FilesGot w v S ys ns) (n : ByteArray) : S.ps.con.has n ↔ n ∈ ns := by
  rw [has_iff, hg.2.2.2.1.mem_iff]
  constructor
  · rintro ⟨x, hx, rfl⟩; exact List.mem_map.2 ⟨x, hx, rfl⟩
  · intro h
    obtain ⟨x, hx, e⟩ := List.mem_map.1 h
    exact ⟨x, hx, e⟩

/-- A file that is there is found, with its bytes. -/
theorem look_got (hD : Dk B w 0 S) (hg : FilesGot w v S ys ns) {n : ByteArray} (hn : S.ps.con.has n) : ∃ u, lookF (filesOf S ns) ys n = some u ∧ IsBy w u (Con.get S.ps.con n).1 ∧ Gv (Qo w S) u := by
  have hm := (got_has hg n).1 hn
  have hl : ys.length = (filesOf S ns).length := hg.1.1
  obtain ⟨u, hu⟩ := lookF_some (filesOf S ns) ys n hl ⟨(n, bytesOf S n), List.mem_map.2 ⟨n, hm, rfl⟩, rfl⟩
  have h1 := look_is n (filesOf S ns) ys hl hg.2.1
  rw [hu, lookB_of S n ns hm, bytes_con hD] at h1
  exact ⟨u, hu, h1.1, h1.2⟩

theorem look_not (hg : FilesGot w v S ys ns) {n : ByteArray} (hn : ¬ S.ps.con.has n) : lookF (filesOf S ns) ys n = none :=
  lookF_none _ _ _ fun x hx e => by
    obtain ⟨m, hm, rfl⟩ := List.mem_map.1 hx
    exact hn ((got_has hg n).2 (by rw [← e]; exact hm))

theorem getD_files (S : DS) (ns : List ByteArray) {i : Nat} (hi : i < ns.length) : (filesOf S ns).getD i (.empty, []) = (ns[i], bytesOf S ns[i]) := by
  unfold filesOf
  rw [List.getD_eq_getElem?_getD, List.getElem?_map, List.getElem?_eq_getElem hi]
  rfl
end

/-- All files but one name or two are alike, ahead of a write and behind it. -/
theorem others_doH {B B' : Nat} {w : World} {S S' : DS} {v v' : Value} {ys ys' : List Value} {ns ns' : List ByteArray} {w0 : World} (hD0 : Dk B w0 0 S) (hg0 : FilesGot w0 v S ys ns) (hF : FilesR w v ys (filesOf S ns)) (hR : RowsR w ys (filesOf S ns)) (hD' : Dk B' w 0 S') (hg' : FilesGot w v' S' ys' ns') (fin : ∀ y ∈ S.ps.con, okN y.1) {dw : Int} {nm tt : ByteArray} {bs : List Nat} {z : Int} (h : DoH S.ps.con dw nm tt bs z S'.ps.con) :
    Calls Tryz.prog 37 #[v, v', .string nm, .string (alsoN dw nm tt)] w fun e w' => e = .returned (.bool true) ∧ Below w.heap.size w w' := by
  have l1 : (filesOf S ns).length = ns.length := filesOf_len S ns
  have l2 : (filesOf S' ns').length = ns'.length := filesOf_len S' ns'
  have c1 : ns.length ≤ 256 := by have h1 := hg0.2.2.2.1.length_eq; rw [List.length_map] at h1; have := hD0.ct; omega
  have c2 : ns'.length ≤ 256 := by have h1 := hg'.2.2.2.1.length_eq; rw [List.length_map] at h1; have := hD'.ct; omega
  refine others_any v v' ys ys' (filesOf S ns) (filesOf S' ns') nm (alsoN dw nm tt) w hF hg'.1 (by omega) (by omega) hR ?_ ?_ ?_
  · intro x hx
    obtain ⟨n, hn, rfl⟩ := List.mem_map.1 hx
    have hm := (got_has hg0 n).2 hn
    rw [has_iff] at hm
    obtain ⟨y, hy, rfl⟩ := hm
    show (bytesOf S y.nm).length ≤ _
    rw [bytes_of hD0 hy]
    exact Nat.le_trans (hD0.len_le hy) (by decide)
  · intro i hi
    rw [l1] at hi
    rw [getD_files S ns hi]
    intro h1 h2
    have hh : S.ps.con.has ns[i] := (got_has hg0 _).2 (List.getElem_mem hi)
    obtain ⟨e1, e2⟩ := doH_get h h1 h2
    obtain ⟨u, k1, k2, _⟩ := look_got hD' hg' (e2.2 hh)
    refine ⟨u, k1, ?_⟩
    rw [e1] at k2
    show IsBy w u (bytesOf S ns[i])
    rw [bytes_con hD0]
    exact k2
  · intro i hi
    rw [l2] at hi
    rw [getD_files S' ns' hi]
    intro h1 h2
    have hh : S'.ps.con.has ns'[i] := (got_has hg' _).2 (List.getElem_mem hi)
    have h3 := (doH_get h h1 h2).2.1 hh
    obtain ⟨u, k1⟩ := lookF_some (filesOf S ns) ys ns'[i] hF.1 ⟨(ns'[i], bytesOf S ns'[i]), List.mem_map.2 ⟨_, (got_has hg0 _).1 h3, rfl⟩, rfl⟩
    rw [k1]; rfl

end Go.Proofs.YtlandfghodfjdaaGreat

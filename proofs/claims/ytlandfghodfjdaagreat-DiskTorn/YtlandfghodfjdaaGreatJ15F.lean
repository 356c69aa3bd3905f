/- What the law finds among the files that the disk told. -/
import Derived.Test.YtlandfghodfjdaaGreatJ13C
import Derived.Test.YtlandfghodfjdaaGreatJ15D
import Derived.Test.YtlandfghodfjdaaGreatJ15B
/- What a write that was OK makes of the files, told in full (for DiskHolds). -/
namespace Go.Proofs.YtlandfghodfjdaaGreat
open Go.RowKit
set_option linter.unusedVariables false
set_option linter.unusedSimpArgs false

theorem upd_has (c : Con) (nm n : ByteArray) (g : List Nat × Nat → List Nat × Nat) : (Con.upd c nm g).has n ↔ c.has n := by
  constructor
  · rintro ⟨y, hy, e⟩
    obtain ⟨x, hx, rfl⟩ := List.mem_map.1 hy
    refine ⟨x, hx, ?_⟩
    rw [← e]
    split <;> rfl
  · rintro ⟨x, hx, e⟩
    refine ⟨_, List.mem_map.2 ⟨x, hx, rfl⟩, ?_⟩
    rw [← e]
    split <;> rfl

theorem more_has (c : Con) (y : ByteArray × List Nat × Nat) (n : ByteArray) : Con.has (c ++ [y]) n ↔ (c.has n ∨ n = y.1) := by
  constructor
  · rintro ⟨z, hz, e⟩
    rcases List.mem_append.1 hz with h | h
    · exact .inl ⟨z, h, e⟩
    · rw [List.mem_singleton.1 h] at e; exact .inr e.symm
  · rintro (⟨z, hz, e⟩ | e)
    · exact ⟨z, List.mem_append.2 (.inl hz), e⟩
    · exact ⟨y, List.mem_append.2 (.inr (List.mem_singleton.2 rfl)), e.symm⟩

theorem app_has (c : Con) (nm : ByteArray) (bs : List Nat) (n : ByteArray) : (Con.app c nm bs).has n ↔ (c.has n ∨ n = nm) := by
  unfold Con.app
  by_cases h : c.has nm
  · rw [if_pos ((any_has c nm).2 h), upd_has]
    exact ⟨.inl, fun h2 => h2.elim id fun e => by rw [e]; exact h⟩
  · rw [if_neg fun e => h ((any_has c nm).1 e)]
    exact more_has _ _ _

theorem puts_has (c : Con) (tn : ByteArray) (q : List Nat × Nat) (n : ByteArray) : (Con.puts c tn q).has n ↔ (c.has n ∨ n = tn) := by
  unfold Con.puts
  by_cases h : c.has tn
  · rw [if_pos ((any_has c tn).2 h), upd_has]
    exact ⟨.inl, fun h2 => h2.elim id fun e => by rw [e]; exact h⟩
  · rw [if_neg fun e => h ((any_has c tn).1 e)]
    exact more_has _ _ _

theorem drop_has (c : Con) (nm n : ByteArray) : (Con.drop c nm).has n ↔ (c.has n ∧ n ≠ nm) := by
  constructor
  · rintro ⟨y, hy, e⟩
    obtain ⟨h1, h2⟩ := List.mem_filter.1 hy
    exact ⟨⟨y, h1, e⟩, by rw [← e]; simpa using h2⟩
  · rintro ⟨⟨y, hy, e⟩, hn⟩
    exact ⟨y, List.mem_filter.2 ⟨hy, by rw [e]; simpa using hn⟩, e⟩

/-- What a write that was OK makes of the files, in full. -/
def DoH (c : Con) (dw : Int) (nm tt : ByteArray) (bs : List Nat) (z : Int) (c' : Con) : Prop :=
  (dw = 1 ∧ okN nm ∧ c' = Con.app c nm bs) ∨ (dw = 2 ∧ okN nm ∧ c.has nm ∧ 0 ≤ z ∧ z ≤ ((Con.get c nm).1.length : Int) ∧ c' = Con.upd c nm fun q => (q.1.take z.toNat, min q.2 z.toNat)) ∨ (dw = 3 ∧ okN nm ∧ okN tt ∧ c.has nm ∧ c' = Con.puts (Con.drop c nm) tt (Con.get c nm)) ∨ (dw = 4 ∧ okN nm ∧ c.has nm ∧ c' = Con.drop c nm) ∨ (dw = 5 ∧ okN nm ∧ c.has nm ∧ c' = Con.upd c nm fun q => (q.1, q.1.length))

/-- The name that a write speaks of besides. -/
def alsoN (dw : Int) (nm tt : ByteArray) : ByteArray := if dw = 3 then tt else nm

theorem doH_get {c c' : Con} {dw : Int} {nm tt : ByteArray} {bs : List Nat} {z : Int} (h : DoH c dw nm tt bs z c') {n : ByteArray} (h1 : n ≠ nm) (h2 : n ≠ alsoN dw nm tt) :
    Con.get c' n = Con.get c n ∧ (c'.has n ↔ c.has n) := by
  rcases h with ⟨hd, _, rfl⟩ | ⟨hd, _, _, _, _, rfl⟩ | ⟨hd, _, _, _, rfl⟩ | ⟨hd, _, _, rfl⟩ | ⟨hd, _, _, rfl⟩
  · rw [get_app, if_neg h1, app_has]
    exact ⟨rfl, fun h => h.elim id fun e => absurd e h1, .inl⟩
  · exact ⟨get_updN _ h1, upd_has _ _ _ _⟩
  · have h3 : n ≠ tt := by unfold alsoN at h2; rw [if_pos hd] at h2; exact h2
    rw [get_puts, if_neg h3, get_drop, if_neg h1, puts_has, drop_has]
    exact ⟨rfl, fun h => h.elim (·.1) fun e => absurd e h3, fun h => .inl ⟨h, h1⟩⟩
  · rw [get_drop, if_neg h1, drop_has]
    exact ⟨rfl, (·.1), fun h => ⟨h, h1⟩⟩
  · exact ⟨get_updN _ h1, upd_has _ _ _ _⟩

theorem doH_app {c c' : Con} {dw : Int} {nm tt : ByteArray} {bs : List Nat} {z : Int} (h : DoH c dw nm tt bs z c') (hd : dw = 1) :
    c'.has nm ∧ (Con.get c' nm).1 = (Con.get c nm).1 ++ bs := by
  rcases h with ⟨_, _, rfl⟩ | ⟨hd2, _⟩ | ⟨hd2, _⟩ | ⟨hd2, _⟩ | ⟨hd2, _⟩
  · exact ⟨(app_has _ _ _ _).2 (.inr rfl), by rw [get_app, if_pos rfl]⟩
  all_goals omega

theorem doH_cut {c c' : Con} {dw : Int} {nm tt : ByteArray} {bs : List Nat} {z : Int} (h : DoH c dw nm tt bs z c') (hd : dw = 2) :
    c.has nm ∧ c'.has nm ∧ 0 ≤ z ∧ z ≤ ((Con.get c nm).1.length : Int) ∧ (Con.get c' nm).1 = (Con.get c nm).1.take z.toNat := by
  rcases h with ⟨hd2, _⟩ | ⟨_, _, hh, h1, h2, rfl⟩ | ⟨hd2, _⟩ | ⟨hd2, _⟩ | ⟨hd2, _⟩
  · omega
  · exact ⟨hh, (upd_has _ _ _ _).2 hh, h1, h2, by rw [get_updY _ hh]⟩
  all_goals omega

theorem doH_rem {c c' : Con} {dw : Int} {nm tt : ByteArray} {bs : List Nat} {z : Int} (h : DoH c dw nm tt bs z c') (hd : dw = 4) :
    c.has nm ∧ ¬ c'.has nm := by
  rcases h with ⟨hd2, _⟩ | ⟨hd2, _⟩ | ⟨hd2, _⟩ | ⟨_, _, hh, rfl⟩ | ⟨hd2, _⟩
  · omega
  · omega
  · omega
  · exact ⟨hh, fun h => ((drop_has _ _ _).1 h).2 rfl⟩
  · omega

theorem doH_syn {c c' : Con} {dw : Int} {nm tt : ByteArray} {bs : List Nat} {z : Int} (h : DoH c dw nm tt bs z c') (hd : dw = 5) :
    c.has nm ∧ (∀ n, c'.has n ↔ c.has n) ∧ ∀ n, (Con.get c' n).1 = (Con.get c n).1 := by
  rcases h with ⟨hd2, _⟩ | ⟨hd2, _⟩ | ⟨hd2, _⟩ | ⟨hd2, _⟩ | ⟨_, _, hh, rfl⟩
  · omega
  · omega
  · omega
  · omega
  · refine ⟨hh, fun n => upd_has _ _ _ _, fun n => ?_⟩
    by_cases h2 : n = nm
    · rw [h2, get_updY _ hh]
    · rw [get_updN _ h2]

theorem doH_ren {c c' : Con} {dw : Int} {nm tt : ByteArray} {bs : List Nat} {z : Int} (h : DoH c dw nm tt bs z c') (hd : dw = 3) :
    c.has nm ∧ c'.has tt ∧ Con.get c' tt = Con.get c nm ∧ (nm ≠ tt → ¬ c'.has nm) ∧ (nm = tt → ∀ n, (c'.has n ↔ c.has n) ∧ Con.get c' n = Con.get c n) := by
  rcases h with ⟨hd2, _⟩ | ⟨hd2, _⟩ | ⟨_, _, _, hh, rfl⟩ | ⟨hd2, _⟩ | ⟨hd2, _⟩
  · omega
  · omega
  · refine ⟨hh, (puts_has _ _ _ _).2 (.inr rfl), by rw [get_puts, if_pos rfl], fun hne h => ?_, fun e n => ?_⟩
    · rcases (puts_has _ _ _ _).1 h with h | h
      · exact ((drop_has _ _ _).1 h).2 rfl
      · exact hne h
    · subst e
      rw [puts_has, drop_has, get_puts, get_drop]
      by_cases h2 : n = nm
      · subst h2
        exact ⟨⟨fun _ => hh, fun _ => .inr rfl⟩, by rw [if_pos rfl]⟩
      · exact ⟨⟨fun h => h.elim (·.1) fun e => absurd e h2, fun h => .inl ⟨h, h2⟩⟩, by rw [if_neg h2, if_neg h2]⟩
  · omega
  · omega

/-- A write that was told OK is one of these; one that was refused leaves all. -/
theorem doH_of {p p' : PS} {dw : Int} {nm tt : ByteArray} {bs : List Nat} {z : Int} (ha : p.ain = 0) (hf : p.con.fine) (hl : bs.length ≤ 1000000000) (h : DoR p dw nm tt bs z 0 true p') : ∃ c', p' = p.next c' ∧ DoH p.con dw nm tt bs z c' := by
  rcases h with ⟨hd, _, h⟩ | ⟨hd, _, h⟩ | ⟨hd, _, h⟩ | ⟨hd, _, h⟩ | ⟨hd, _, h⟩ | ⟨_, e, _⟩
  · rcases h with ⟨_, e, _⟩ | ⟨_, _, _, e, _⟩ | ⟨_, hok, _, _, e⟩
    · exact absurd rfl e
    · exact absurd e (by decide)
    · rw [wrote_next ha] at e
      refine ⟨_, e, .inl ⟨hd, hok, ?_⟩⟩
      unfold appF
      rw [toNat_max, List.take_of_length_le (by omega)]
  · rcases h with ⟨h, _⟩ | ⟨_, hok, b, su, hb, h⟩
    · exact absurd rfl h.1
    · rcases h with ⟨_, e, _⟩ | ⟨hz, _, e⟩
      · exact absurd e (by decide)
      · rw [wrote_next ha] at e
        have hg := get_of hf.1 hb
        exact ⟨_, e, .inr (.inl ⟨hd, hok, ⟨_, hb, rfl⟩, hz.1, by rw [hg]; exact hz.2, rfl⟩)⟩
  · rcases h with ⟨_, e, _⟩ | ⟨_, _, _, _, e, _⟩ | ⟨_, hok, hok2, hh, _, e⟩
    · exact absurd rfl e
    · exact absurd e (by decide)
    · rw [wrote_next ha] at e
      exact ⟨_, e, .inr (.inr (.inl ⟨hd, hok, hok2, hh, rfl⟩))⟩
  · rcases h with ⟨h, _⟩ | ⟨_, hok, hh, _, e⟩
    · exact absurd rfl h.1
    · rw [wrote_next ha] at e
      exact ⟨_, e, .inr (.inr (.inr (.inl ⟨hd, hok, hh, rfl⟩)))⟩
  · rcases h with ⟨h, _⟩ | ⟨_, hok, hh, _, e⟩
    · exact absurd rfl h.1
    · rw [wrote_next ha] at e
      exact ⟨_, e, .inr (.inr (.inr (.inr ⟨hd, hok, hh, rfl⟩)))⟩
  · cases e

end Go.Proofs.YtlandfghodfjdaaGreat

namespace Go.Proofs.YtlandfghodfjdaaGreat
open Go.RowKit
set_option linter.unusedVariables false
set_option linter.unusedSimpArgs false

theorem lookF_some : ∀ (fs : List (ByteArray × List Nat)) (us : List Value) (n : ByteArray), us.length = fs.length → (∃ x ∈ fs, x.1 = n) → ∃ u, lookF fs us n = some u
  | [], _, _, _, ⟨x, hx, _⟩ => by simp at hx
  | _ :: _, [], _, h, _ => by simp at h
  | y :: fs, u :: us, n, h, ⟨x, hx, e⟩ => by
    unfold lookF
    by_cases h1 : y.1 = n
    · exact ⟨u, if_pos h1⟩
    · rw [if_neg h1]
      rcases List.mem_cons.1 hx with h2 | h2
      · exact absurd (h2 ▸ e) h1
      · exact lookF_some fs us n (by simpa using h) ⟨x, h2, e⟩

theorem lookF_none : ∀ (fs : List (ByteArray × List Nat)) (us : List Value) (n : ByteArray), (∀ x ∈ fs, x.1 ≠ n) → lookF fs us n = none
  | [], [], _, _ => rfl
  | [], _ :: _, _, _ => rfl
  | _ :: _, [], _, _ => rfl
  | y :: fs, u :: us, n, h => by
    unfold lookF
    rw [if_neg (h y (List.mem_cons_self ..))]
    exact lookF_none fs us n fun x hx => h x (List.mem_cons_of_mem _ hx)

theorem lookB_of (S : DS) (n : ByteArray) : ∀ ns : List ByteArray, n ∈ ns → lookB (filesOf S ns) n = bytesOf S n
  | [], h => by simp at h
  | m :: ns, h => by
    unfold lookB filesOf
    rw [List.map_cons, List.find?_cons]
    by_cases h1 : m = n
    · subst h1; simp
    · have h2 : n ∈ ns := by
        rcases List.mem_cons.1 h with h | h
        · exact absurd h.symm h1
        · exact h
      have := lookB_of S n ns h2
      unfold lookB filesOf at this
      simp only [h1, decide_false]
      exact this

section
variable {B : Nat} {w : World} {S : DS} {v : Value} {ys : List Value} {ns : List ByteArray}

theorem got_has (hg : FilesGot w v S ys ns) (n : ByteArray) : S.ps.con.has n ↔ n ∈ ns := by
  rw [has_iff, hg.2.2.2.1.mem_iff]
  constructor
  · rintro ⟨x, hx, rfl⟩; exact List.mem_map.2 ⟨x, hx, rfl⟩
  · intro h
    obtain ⟨x, hx, e⟩ := List.mem_map.1 h
    exact ⟨x, hx, e⟩

/-- A file that is there is found, with its bytes. -/
theorem look_got (hD : Dk B w 0 S) (hg : FilesGot w v S ys ns) {n : ByteArray} (hn : S.ps.con.has n) : ∃ u, lookF (filesOf S ns) ys n = some u ∧ IsBy w u (Con.get S.ps.con n).1 ∧ Gv (Qo w S) u := by
  have hm := (got_has hg n).1 hn
  have hl : ys.length = (filesOf S ns).length := hg.1.1
  obtain ⟨u, hu⟩ := lookF_some (filesOf S ns) ys n hl ⟨(n, bytesOf S n), List.mem_map.2 ⟨n, hm, rfl⟩, rfl⟩
  have h1 := look_is n (filesOf S ns) ys hl hg.2.1
  rw [hu, lookB_of S n ns hm, bytes_con hD] at h1
  exact ⟨u, hu, h1.1, h1.2⟩

theorem look_not (hg : FilesGot w v S ys ns) {n : ByteArray} (hn : ¬ S.ps.con.has n) : lookF (filesOf S ns) ys n = none :=
  lookF_none _ _ _ fun x hx e => by
    obtain ⟨m, hm, rfl⟩ := List.mem_map.1 hx
    exact hn ((got_has hg n).2 (by rw [← e]; exact hm))

theorem getD_files (S : DS) (ns : List ByteArray) {i : Nat} (hi : i < ns.length) : (filesOf S ns).getD i (.empty, []) = (ns[i], bytesOf S ns[i]) := by
  unfold filesOf
  rw [List.getD_eq_getElem?_getD, List.getElem?_map, List.getElem?_eq_getElem hi]
  rfl
end

/-- All files but one name or two are alike, ahead of a write and behind it. -/
theorem others_doH {B B' : Nat} {w : World} {S S' : DS} {v v' : Value} {ys ys' : List Value} {ns ns' : List ByteArray} {w0 : World} (hD0 : Dk B w0 0 S) (hg0 : FilesGot w0 v S ys ns) (hF : FilesR w v ys (filesOf S ns)) (hR : RowsR w ys (filesOf S ns)) (hD' : Dk B' w 0 S') (hg' : FilesGot w v' S' ys' ns') (fin : ∀ y ∈ S.ps.con, okN y.1) {dw : Int} {nm tt : ByteArray} {bs : List Nat} {z : Int} (h : DoH S.ps.con dw nm tt bs z S'.ps.con) :
    Calls Tryz.prog 37 #[v, v', .string nm, .string (alsoN dw nm tt)] w fun e w' => e = .returned (.bool true) ∧ Below w.heap.size w w' := by
  have l1 : (filesOf S ns).length = ns.length := filesOf_len S ns
  have l2 : (filesOf S' ns').length = ns'.length := filesOf_len S' ns'
  have c1 : ns.length ≤ 256 := by have h1 := hg0.2.2.2.1.length_eq; rw [List.length_map] at h1; have := hD0.ct; omega
  have c2 : ns'.length ≤ 256 := by have h1 := hg'.2.2.2.1.length_eq; rw [List.length_map] at h1; have := hD'.ct; omega
  refine others_any v v' ys ys' (filesOf S ns) (filesOf S' ns') nm (alsoN dw nm tt) w hF hg'.1 (by omega) (by omega) hR ?_ ?_ ?_
  · intro x hx
    obtain ⟨n, hn, rfl⟩ := List.mem_map.1 hx
    have hm := (got_has hg0 n).2 hn
    rw [has_iff] at hm
    obtain ⟨y, hy, rfl⟩ := hm
    show (bytesOf S y.nm).length ≤ _
    rw [bytes_of hD0 hy]
    exact Nat.le_trans (hD0.len_le hy) (by decide)
  · intro i hi
    rw [l1] at hi
    rw [getD_files S ns hi]
    intro h1 h2
    have hh : S.ps.con.has ns[i] := (got_has hg0 _).2 (List.getElem_mem hi)
    obtain ⟨e1, e2⟩ := doH_get h h1 h2
    obtain ⟨u, k1, k2, _⟩ := look_got hD' hg' (e2.2 hh)
    refine ⟨u, k1, ?_⟩
    rw [e1] at k2
    show IsBy w u (bytesOf S ns[i])
    rw [bytes_con hD0]
    exact k2
  · intro i hi
    rw [l2] at hi
    rw [getD_files S' ns' hi]
    intro h1 h2
    have hh : S'.ps.con.has ns'[i] := (got_has hg' _).2 (List.getElem_mem hi)
    have h3 := (doH_get h h1 h2).2.1 hh
    obtain ⟨u, k1⟩ := lookF_some (filesOf S ns) ys ns'[i] hF.1 ⟨(ns'[i], bytesOf S ns'[i]), List.mem_map.2 ⟨_, (got_has hg0 _).1 h3, rfl⟩, rfl⟩
    rw [k1]; rfl

end Go.Proofs.YtlandfghodfjdaaGreat

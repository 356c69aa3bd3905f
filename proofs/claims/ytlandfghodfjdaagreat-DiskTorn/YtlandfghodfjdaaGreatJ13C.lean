/- What is sure of files, as plain data: what a write that was OK makes of it. -/
import Derived.Test.YtlandfghodfjdaaGreatJ12Y
import Derived.Test.YtlandfghodfjdaaGreatJ13B
namespace Go.Proofs.YtlandfghodfjdaaGreat
open Go.RowKit
set_option linter.unusedVariables false
set_option linter.unusedSimpArgs false

theorem get_nil (n : ByteArray) : Con.get [] n = ([], 0) := rfl
theorem get_cons (y : ByteArray × List Nat × Nat) (c : Con) (n : ByteArray) : Con.get (y :: c) n = if y.1 = n then y.2 else Con.get c n := by
  unfold Con.get
  by_cases h : y.1 = n <;> simp [List.find?, h]
theorem get_out {c : Con} {n : ByteArray} (h : ∀ y ∈ c, y.1 ≠ n) : Con.get c n = ([], 0) := by
  induction c with
  | nil => rfl
  | cons y c ih => rw [get_cons, if_neg (h y (by simp)), ih fun z hz => h z (by simp [hz])]
theorem get_updN {c : Con} {nm n : ByteArray} (g : List Nat × Nat → List Nat × Nat) (h : ¬ n = nm) : Con.get (Con.upd c nm g) n = Con.get c n := by
  induction c with
  | nil => rfl
  | cons y c ih =>
    have e : Con.upd (y :: c) nm g = (if y.1 = nm then (y.1, g y.2) else y) :: Con.upd c nm g := rfl
    rw [e, get_cons, get_cons, ih]
    by_cases h1 : y.1 = nm
    · have h3 : ¬ y.1 = n := fun e => h (e.symm.trans h1)
      rw [if_pos h1, if_neg h3, if_neg h3]
    · rw [if_neg h1]
theorem get_updY {c : Con} {nm : ByteArray} (g : List Nat × Nat → List Nat × Nat) (h : c.has nm) : Con.get (Con.upd c nm g) nm = g (Con.get c nm) := by
  induction c with
  | nil => obtain ⟨y, hy, _⟩ := h; simp at hy
  | cons y c ih =>
    have e : Con.upd (y :: c) nm g = (if y.1 = nm then (y.1, g y.2) else y) :: Con.upd c nm g := rfl
    rw [e, get_cons, get_cons]
    by_cases h1 : y.1 = nm
    · rw [if_pos h1, if_pos h1, if_pos h1]
    · rw [if_neg h1, if_neg h1, if_neg h1]
      obtain ⟨z, hz, e2⟩ := h
      rcases List.mem_cons.1 hz with h3 | hz
      · rw [h3] at e2; exact absurd e2 h1
      · exact ih ⟨z, hz, e2⟩
theorem get_drop (c : Con) (nm n : ByteArray) : Con.get (Con.drop c nm) n = if n = nm then ([], 0) else Con.get c n := by
  induction c with
  | nil => by_cases h : n = nm <;> simp [h, Con.drop, get_nil]
  | cons y c ih =>
    have e : Con.drop (y :: c) nm = if y.1 = nm then Con.drop c nm else y :: Con.drop c nm := by
      unfold Con.drop
      by_cases h : y.1 = nm <;> simp [List.filter, h]
    rw [e, get_cons]
    by_cases h1 : y.1 = nm
    · rw [if_pos h1, ih]
      by_cases h2 : n = nm
      · rw [if_pos h2, if_pos h2]
      · rw [if_neg h2, if_neg h2, if_neg fun e => h2 (e.symm.trans h1)]
    · rw [if_neg h1, get_cons, ih]
      by_cases h2 : y.1 = n
      · rw [if_pos h2, if_pos h2, if_neg fun e => h1 (h2.trans e)]
      · rw [if_neg h2, if_neg h2]
theorem get_more (c : Con) (y : ByteArray × List Nat × Nat) (n : ByteArray) (h : ∀ z ∈ c, z.1 ≠ y.1) : Con.get (c ++ [y]) n = if n = y.1 then y.2 else Con.get c n := by
  induction c with
  | nil =>
    rw [List.nil_append, get_cons]
    by_cases h2 : y.1 = n
    · rw [if_pos h2, if_pos h2.symm]
    · rw [if_neg h2, if_neg fun e => h2 e.symm]
  | cons z c ih =>
    rw [List.cons_append, get_cons, get_cons, ih fun x hx => h x (by simp [hx])]
    by_cases h1 : z.1 = n
    · rw [if_pos h1, if_pos h1, if_neg fun e => h z (by simp) (h1.trans e)]
    · rw [if_neg h1, if_neg h1]
theorem any_has (c : Con) (nm : ByteArray) : c.any (fun y => decide (y.1 = nm)) = true ↔ c.has nm := by
  rw [List.any_eq_true]
  exact ⟨fun ⟨y, hy, h⟩ => ⟨y, hy, by simpa using h⟩, fun ⟨y, hy, h⟩ => ⟨y, hy, by simpa using h⟩⟩
theorem get_no {c : Con} {nm : ByteArray} (h : ¬ c.has nm) : Con.get c nm = ([], 0) := get_out fun y hy e => h ⟨y, hy, e⟩
theorem get_app (c : Con) (nm : ByteArray) (bs : List Nat) (n : ByteArray) : Con.get (Con.app c nm bs) n = if n = nm then ((Con.get c nm).1 ++ bs, (Con.get c nm).2) else Con.get c n := by
  unfold Con.app
  by_cases h : c.has nm
  · rw [if_pos ((any_has c nm).2 h)]
    by_cases h2 : n = nm
    · rw [h2, get_updY _ h, if_pos rfl]
    · rw [get_updN _ h2, if_neg h2]
  · rw [if_neg fun e => h ((any_has c nm).1 e), get_more _ _ _ fun z hz e => h ⟨z, hz, e⟩, get_no h]
    rfl
theorem get_puts (c : Con) (tn : ByteArray) (q : List Nat × Nat) (n : ByteArray) : Con.get (Con.puts c tn q) n = if n = tn then q else Con.get c n := by
  unfold Con.puts
  by_cases h : c.has tn
  · rw [if_pos ((any_has c tn).2 h)]
    by_cases h2 : n = tn
    · rw [h2, get_updY _ h, if_pos rfl]
    · rw [get_updN _ h2, if_neg h2]
  · rw [if_neg fun e => h ((any_has c tn).1 e), get_more _ _ _ fun z hz e => h ⟨z, hz, e⟩]
theorem get_each (c : Con) (f : List Nat × Nat → List Nat × Nat) (n : ByteArray) (h : c.has n) : Con.get (Con.each c f) n = f (Con.get c n) := by
  induction c with
  | nil => obtain ⟨y, hy, _⟩ := h; simp at hy
  | cons y c ih =>
    have e : Con.each (y :: c) f = (y.1, f y.2) :: Con.each c f := rfl
    rw [e, get_cons, get_cons]
    by_cases h1 : y.1 = n
    · rw [if_pos h1, if_pos h1]
    · rw [if_neg h1, if_neg h1]
      obtain ⟨z, hz, e2⟩ := h
      rcases List.mem_cons.1 hz with h3 | hz
      · rw [h3] at e2; exact absurd e2 h1
      · exact ih ⟨z, hz, e2⟩

/-- What is sure of a file. -/
def sb (c : Con) (n : ByteArray) : List Nat := (Con.get c n).1.take (Con.get c n).2
def sureOf (c : Con) (ns : List ByteArray) : List (ByteArray × List Nat) := ns.map fun n => (n, sb c n)
def lookB (fs : List (ByteArray × List Nat)) (n : ByteArray) : List Nat := ((fs.find? fun x => decide (x.1 = n)).map (·.2)).getD []

theorem look_sure (c : Con) (n : ByteArray) : ∀ ns : List ByteArray, (c.has n → n ∈ ns) → lookB (sureOf c ns) n = sb c n
  | [], h => by
    unfold sb
    rw [get_no fun e => by simpa using h e]
    rfl
  | x :: ns, h => by
    unfold lookB sureOf
    by_cases e : x = n
    · subst e; simp [List.find?]
    · have h2 := look_sure c n ns fun k => by
        rcases List.mem_cons.1 (h k) with e2 | e2
        · exact absurd e2.symm e
        · exact e2
      simp only [List.map_cons, List.find?, e, decide_false]
      exact h2

/-- What the law's still makes of a file. -/
def stillB (dw : Int) (nm tt : ByteArray) (z : Int) (L : ByteArray → List Nat) (n : ByteArray) (nb : List Nat) : List Nat :=
  let b0 := if dw = 3 ∧ n = tt ∧ ¬ tt = nm then L nm else L n
  let b1 := if dw = 5 ∧ n = nm then nb else b0
  if dw = 2 ∧ n = nm ∧ z < (b1.length : Int) then b1.take z.toNat else b1

/-- What may be: of no file more is sure than it has. -/
def Con.fine (c : Con) : Prop := (c.map (·.1)).Nodup ∧ (∀ y ∈ c, y.2.2 ≤ y.2.1.length) ∧ (∀ y ∈ c, okN y.1) ∧ ∀ y ∈ c, y.2.1.length ≤ 268435456

theorem get_of {c : Con} (hn : (c.map (·.1)).Nodup) {y : ByteArray × List Nat × Nat} (hy : y ∈ c) : Con.get c y.1 = y.2 := by
  induction c with
  | nil => simp at hy
  | cons x c ih =>
    rw [List.map_cons, List.nodup_cons] at hn
    rw [get_cons]
    rcases List.mem_cons.1 hy with rfl | hy
    · rw [if_pos rfl]
    · rw [if_neg fun e => hn.1 (List.mem_map.2 ⟨y, hy, e.symm⟩), ih hn.2 hy]

theorem get_su {c : Con} (h : c.fine) (n : ByteArray) : (Con.get c n).2 ≤ (Con.get c n).1.length := by
  by_cases hn : c.has n
  · obtain ⟨y, hy, rfl⟩ := hn
    rw [get_of h.1 hy]
    exact h.2.1 y hy
  · rw [get_no hn]; exact Nat.le_refl _

theorem sb_len {c : Con} (h : c.fine) (n : ByteArray) : (sb c n).length = (Con.get c n).2 := by
  unfold sb
  rw [List.length_take]
  have := get_su h n
  omega

theorem drop_puts {c : Con} {nm tt : ByteArray} {q : List Nat × Nat} {y : ByteArray × List Nat × Nat} (hy : y ∈ Con.puts (Con.drop c nm) tt q) (e : y.1 = nm) (h : ¬ nm = tt) : False := by
  have hd : ∀ x ∈ Con.drop c nm, x.1 ≠ nm := fun x hx => by simpa using (List.mem_filter.1 hx).2
  unfold Con.puts at hy
  split at hy
  · obtain ⟨x, hx, rfl⟩ := List.mem_map.1 hy
    by_cases e2 : x.1 = tt
    · rw [if_pos e2] at e; exact hd x hx e
    · rw [if_neg e2] at e; exact hd x hx e
  · rcases List.mem_append.1 hy with hy | hy
    · exact hd y hy e
    · rw [List.mem_singleton.1 hy] at e; exact h e.symm

theorem still_cutB {c : Con} {dw z : Int} {nm tt : ByteArray} (hf : c.fine) (hd : dw = 2) (hb : c.has nm) (hz : 0 ≤ z) (n : ByteArray) : stillB dw nm tt z (sb c) n (Con.get (Con.upd c nm fun q => (q.1.take z.toNat, min q.2 z.toNat)) n).1 = sb (Con.upd c nm fun q => (q.1.take z.toNat, min q.2 z.toNat)) n := by
  have hl := sb_len hf n
  obtain ⟨k, hk⟩ : ∃ k : Nat, z = (k : Int) := ⟨z.toNat, by omega⟩
  subst hk
  rw [Int.toNat_natCast]
  unfold stillB
  dsimp only
  rw [if_neg (show ¬ (dw = 5 ∧ n = nm) by omega), if_neg (show ¬ (dw = 3 ∧ n = tt ∧ ¬ tt = nm) by omega), hl]
  by_cases e : n = nm
  · subst e
    unfold sb
    rw [get_updY _ hb]
    dsimp only
    by_cases h2 : (k : Int) < ((Con.get c n).2 : Int)
    · rw [if_pos ⟨hd, rfl, h2⟩, Int.toNat_natCast, List.take_take, List.take_take]
      congr 1
      omega
    · rw [if_neg fun e => h2 e.2.2, List.take_take]
      congr 1
      omega
  · rw [if_neg fun k => e k.2.1]
    unfold sb
    rw [get_updN _ e]

theorem still_appB {c : Con} {dw z : Int} {nm tt : ByteArray} (hf : c.fine) (hd : dw = 1) (bs : List Nat) (n : ByteArray) : stillB dw nm tt z (sb c) n (Con.get (Con.app c nm bs) n).1 = sb (Con.app c nm bs) n := by
  unfold stillB
  dsimp only
  rw [if_neg (show ¬ (dw = 5 ∧ n = nm) by omega), if_neg (show ¬ (dw = 3 ∧ n = tt ∧ ¬ tt = nm) by omega), if_neg fun e => by have := e.1; omega]
  unfold sb
  rw [get_app]
  by_cases e : n = nm
  · subst e
    rw [if_pos rfl]
    exact (List.take_append_of_le_length (get_su hf n)).symm
  · rw [if_neg e]

theorem still_renB {c : Con} {dw z : Int} {nm tt : ByteArray} (hd : dw = 3) (n : ByteArray) (hn : (Con.puts (Con.drop c nm) tt (Con.get c nm)).has n) : stillB dw nm tt z (sb c) n (Con.get (Con.puts (Con.drop c nm) tt (Con.get c nm)) n).1 = sb (Con.puts (Con.drop c nm) tt (Con.get c nm)) n := by
  unfold stillB
  dsimp only
  rw [if_neg (show ¬ (dw = 5 ∧ n = nm) by omega), if_neg fun e => by have := e.1; omega]
  unfold sb
  rw [get_puts, get_drop]
  by_cases e : n = tt
  · subst e
    rw [if_pos rfl]
    by_cases e2 : n = nm
    · subst e2; rw [if_neg fun k => k.2.2 rfl]
    · rw [if_pos ⟨hd, rfl, e2⟩]
  · rw [if_neg e, if_neg fun k => e k.2.1]
    by_cases e2 : n = nm
    · exfalso
      subst e2
      obtain ⟨y, hy, e3⟩ := hn
      exact drop_puts hy e3 e
    · rw [if_neg e2]

theorem still_remB {c : Con} {dw z : Int} {nm tt : ByteArray} (hd : dw = 4) (n : ByteArray) (hn : (Con.drop c nm).has n) : stillB dw nm tt z (sb c) n (Con.get (Con.drop c nm) n).1 = sb (Con.drop c nm) n := by
  obtain ⟨y, hy, rfl⟩ := hn
  have hne : ¬ y.1 = nm := by simpa using (List.mem_filter.1 hy).2
  unfold stillB
  dsimp only
  rw [if_neg (show ¬ (dw = 5 ∧ y.1 = nm) by omega), if_neg (show ¬ (dw = 3 ∧ y.1 = tt ∧ ¬ tt = nm) by omega), if_neg fun e => by have := e.1; omega]
  unfold sb
  rw [get_drop, if_neg hne]

theorem still_synB {c : Con} {dw z : Int} {nm tt : ByteArray} (hd : dw = 5) (hh : c.has nm) (n : ByteArray) : stillB dw nm tt z (sb c) n (Con.get (Con.upd c nm fun q => (q.1, q.1.length)) n).1 = sb (Con.upd c nm fun q => (q.1, q.1.length)) n := by
  unfold stillB
  dsimp only
  rw [if_neg (show ¬ (dw = 3 ∧ n = tt ∧ ¬ tt = nm) by omega), if_neg fun e => by have := e.1; omega]
  by_cases e : n = nm
  · subst e
    rw [if_pos ⟨hd, rfl⟩]
    unfold sb
    rw [get_updY _ hh]
    simp
  · rw [if_neg fun k => e k.2]
    unfold sb
    rw [get_updN _ e]

theorem upd_ok {c : Con} (h : ∀ y ∈ c, okN y.1) (nm : ByteArray) (g : List Nat × Nat → List Nat × Nat) : ∀ y ∈ Con.upd c nm g, okN y.1 := fun y hy => by
  obtain ⟨x, hx, rfl⟩ := List.mem_map.1 hy
  by_cases e : x.1 = nm
  · rw [if_pos e]; exact h x hx
  · rw [if_neg e]; exact h x hx

theorem app_ok {c : Con} (h : ∀ y ∈ c, okN y.1) {nm : ByteArray} (hok : okN nm) (bs : List Nat) : ∀ y ∈ Con.app c nm bs, okN y.1 := fun y hy => by
  unfold Con.app at hy
  split at hy
  · exact upd_ok h _ _ y hy
  · rcases List.mem_append.1 hy with hy | hy
    · exact h y hy
    · rw [List.mem_singleton.1 hy]; exact hok

theorem drop_ok {c : Con} (h : ∀ y ∈ c, okN y.1) (nm : ByteArray) : ∀ y ∈ Con.drop c nm, okN y.1 := fun y hy => h y (List.mem_filter.1 hy).1

theorem puts_ok {c : Con} (h : ∀ y ∈ c, okN y.1) {tt : ByteArray} (hok : okN tt) (q : List Nat × Nat) : ∀ y ∈ Con.puts c tt q, okN y.1 := fun y hy => by
  unfold Con.puts at hy
  split at hy
  · exact upd_ok h _ _ y hy
  · rcases List.mem_append.1 hy with hy | hy
    · exact h y hy
    · rw [List.mem_singleton.1 hy]; exact hok

/-- How it goes on when nothing is armed. -/
def PS.next (p : PS) (c : Con) : PS := { p with con := c, ain := p.ain - 1, wr := p.wr + 1 }

theorem wrote_next {p : PS} (ha : p.ain = 0) (f : Int → Con → Con) : p.wrote f = p.next (f 9223372036854775807 p.con) := if_neg (by omega)

theorem toNat_max : (9223372036854775807 : Int).toNat = 9223372036854775807 := rfl

/-- What a write that was OK makes of the files. -/
def DoC (c : Con) (dw : Int) (nm tt : ByteArray) (z : Int) (c' : Con) : Prop :=
  (dw = 1 ∧ okN nm ∧ ∃ bs, c' = Con.app c nm bs) ∨ (dw = 2 ∧ c.has nm ∧ 0 ≤ z ∧ c' = Con.upd c nm fun q => (q.1.take z.toNat, min q.2 z.toNat)) ∨ (dw = 3 ∧ okN tt ∧ c' = Con.puts (Con.drop c nm) tt (Con.get c nm)) ∨ (dw = 4 ∧ c' = Con.drop c nm) ∨ (dw = 5 ∧ c.has nm ∧ c' = Con.upd c nm fun q => (q.1, q.1.length))

theorem do_next {p p' : PS} {dw : Int} {nm tt : ByteArray} {bs : List Nat} {z : Int} (ha : p.ain = 0) (h : DoR p dw nm tt bs z 0 true p') : ∃ c', p' = p.next c' ∧ DoC p.con dw nm tt z c' := by
  rcases h with ⟨hd, _, h⟩ | ⟨hd, _, h⟩ | ⟨hd, _, h⟩ | ⟨hd, _, h⟩ | ⟨hd, _, h⟩ | ⟨_, e, _⟩
  · rcases h with ⟨_, e, _⟩ | ⟨_, _, _, e, _⟩ | ⟨_, hok, _, _, e⟩
    · exact absurd rfl e
    · exact absurd e (by decide)
    · rw [wrote_next ha] at e
      exact ⟨_, e, .inl ⟨hd, hok, _, rfl⟩⟩
  · rcases h with ⟨h, _⟩ | ⟨_, hok, b, su, hb, h⟩
    · exact absurd rfl h.1
    · rcases h with ⟨_, e, _⟩ | ⟨hz, _, e⟩
      · exact absurd e (by decide)
      · rw [wrote_next ha] at e
        exact ⟨_, e, .inr (.inl ⟨hd, ⟨_, hb, rfl⟩, hz.1, rfl⟩)⟩
  · rcases h with ⟨_, e, _⟩ | ⟨_, _, _, _, e, _⟩ | ⟨_, hok, hok2, _, _, e⟩
    · exact absurd rfl e
    · exact absurd e (by decide)
    · rw [wrote_next ha] at e
      exact ⟨_, e, .inr (.inr (.inl ⟨hd, hok2, rfl⟩))⟩
  · rcases h with ⟨h, _⟩ | ⟨_, hok, _, _, e⟩
    · exact absurd rfl h.1
    · rw [wrote_next ha] at e
      exact ⟨_, e, .inr (.inr (.inr (.inl ⟨hd, rfl⟩)))⟩
  · rcases h with ⟨h, _⟩ | ⟨_, hok, hh, _, e⟩
    · exact absurd rfl h.1
    · rw [wrote_next ha] at e
      exact ⟨_, e, .inr (.inr (.inr (.inr ⟨hd, hh, rfl⟩)))⟩
  · cases e

theorem still_do {c c' : Con} {dw : Int} {nm tt : ByteArray} {z : Int} (hf : c.fine) (h : DoC c dw nm tt z c') :
    (dw = 2 → 0 ≤ z) ∧ (∀ n, c'.has n → stillB dw nm tt z (sb c) n (Con.get c' n).1 = sb c' n) ∧ ∀ y ∈ c', okN y.1 := by
  rcases h with ⟨hd, hok, bs, rfl⟩ | ⟨hd, hh, hz, rfl⟩ | ⟨hd, hok, rfl⟩ | ⟨hd, rfl⟩ | ⟨hd, hh, rfl⟩
  · exact ⟨fun e => by omega, fun n _ => still_appB hf hd bs n, app_ok hf.2.2.1 hok bs⟩
  · exact ⟨fun _ => hz, fun n _ => still_cutB hf hd hh hz n, upd_ok hf.2.2.1 _ _⟩
  · exact ⟨fun e => by omega, fun n hn => still_renB hd n hn, puts_ok (drop_ok hf.2.2.1 nm) hok _⟩
  · exact ⟨fun e => by omega, fun n hn => still_remB hd n hn, drop_ok hf.2.2.1 nm⟩
  · exact ⟨fun e => by omega, fun n _ => still_synB hd hh n, upd_ok hf.2.2.1 _ _⟩

end Go.Proofs.YtlandfghodfjdaaGreat

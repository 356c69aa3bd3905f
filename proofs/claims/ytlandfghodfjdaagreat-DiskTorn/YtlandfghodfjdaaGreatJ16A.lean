/- What a disk tells of a file that it does not tell of, and while its power is off. -/
import Derived.Test.YtlandfghodfjdaaGreatJ13E
import Derived.Test.YtlandfghodfjdaaGreatJ12Q
/- Two disks that hold the same are told the same (plain). -/
namespace Go.Proofs.YtlandfghodfjdaaGreat
open Go.RowKit
set_option linter.unusedVariables false
set_option linter.unusedSimpArgs false

/-- What a write does. -/
def effF (dw : Int) (nm tt : ByteArray) (bs : List Nat) (z : Int) : Int → Con → Con :=
  if dw = 1 then appF nm bs else if dw = 2 then cutF nm z.toNat else if dw = 3 then renameF nm tt else if dw = 4 then removeF nm else syncF nm

def Fit (c : Con) (room : Nat) (nm : ByteArray) (k : Nat) : Prop := (c.has nm ∨ c.length < 256) ∧ k + Con.tot c ≤ room

/-- What a write is told, by what stands: 0 where it is taken. -/
def Vd (p : PS) (dw : Int) (nm tt : ByteArray) (bs : List Nat) (z v : Int) : Prop :=
  (p.off = true ∧ v = 104) ∨
  (p.off = false ∧ ¬ (okN nm ∧ (dw = 3 → okN tt)) ∧ v = 101) ∨
  (p.off = false ∧ okN nm ∧ (dw = 3 → okN tt) ∧ dw = 1 ∧ ¬ Fit p.con p.room nm bs.length ∧ v = 103) ∨
  (p.off = false ∧ okN nm ∧ (dw = 3 → okN tt) ∧ dw = 1 ∧ Fit p.con p.room nm bs.length ∧ v = 0) ∨
  (p.off = false ∧ okN nm ∧ (dw = 3 → okN tt) ∧ ¬ dw = 1 ∧ ¬ p.con.has nm ∧ v = 102) ∨
  (p.off = false ∧ okN nm ∧ (dw = 3 → okN tt) ∧ dw = 2 ∧ p.con.has nm ∧ ¬ (0 ≤ z ∧ z ≤ ((Con.get p.con nm).1.length : Int)) ∧ v = 105) ∨
  (p.off = false ∧ okN nm ∧ (dw = 3 → okN tt) ∧ ¬ dw = 1 ∧ p.con.has nm ∧ (dw = 2 → 0 ≤ z ∧ z ≤ ((Con.get p.con nm).1.length : Int)) ∧ v = 0)

theorem vd_one {p : PS} {dw : Int} {nm tt : ByteArray} {bs : List Nat} {z v v' : Int} (h : Vd p dw nm tt bs z v) (h' : Vd p dw nm tt bs z v') : v = v' := by
  unfold Vd at h h'
  generalize okN nm = A at h h'
  generalize okN tt = B at h h'
  generalize Fit p.con p.room nm bs.length = C at h h'
  generalize p.con.has nm = D at h h'
  generalize (0 ≤ z ∧ z ≤ ((Con.get p.con nm).1.length : Int)) = E at h h'
  grind

theorem refs_one {off : Bool} {nm : ByteArray} {c : Int} (h : Refs off [nm] c) (h0 : ¬ c = 0) : (off = true ∧ c = 104) ∨ (off = false ∧ ¬ okN nm ∧ c = 101) := by
  rcases h with ⟨a, b⟩ | ⟨a, ⟨s, hs, b⟩, c⟩ | ⟨_, _, b⟩
  · exact .inl ⟨a, b⟩
  · rw [List.mem_singleton.1 hs] at b; exact .inr ⟨a, b, c⟩
  · exact absurd b h0

theorem refs_pair {off : Bool} {nm tt : ByteArray} {c : Int} (h : Refs off [nm, tt] c) (h0 : ¬ c = 0) : (off = true ∧ c = 104) ∨ (off = false ∧ ¬ (okN nm ∧ okN tt) ∧ c = 101) := by
  rcases h with ⟨a, b⟩ | ⟨a, ⟨s, hs, b⟩, c⟩ | ⟨_, _, b⟩
  · exact .inl ⟨a, b⟩
  · refine .inr ⟨a, fun e => ?_, c⟩
    rcases List.mem_cons.1 hs with rfl | hs
    · exact b e.1
    · rw [List.mem_singleton.1 hs] at b; exact b e.2
  · exact absurd b h0

theorem findC_cases {p : PS} {nm : ByteArray} {c : Int} (h : FindC p nm c) : (p.off = true ∧ c = 104) ∨ (p.off = false ∧ ¬ okN nm ∧ c = 101) ∨ (p.off = false ∧ okN nm ∧ ¬ p.con.has nm ∧ c = 102) := by
  obtain ⟨h0, h | h⟩ := h
  · rcases refs_one h h0 with h | h
    · exact .inl h
    · exact .inr (.inl h)
  · exact .inr (.inr h)

theorem findC_vd {p : PS} {dw : Int} {nm tt : ByteArray} {bs : List Nat} {z c : Int} (h : FindC p nm c) (h1 : ¬ dw = 1) (h3 : ¬ dw = 3) : Vd p dw nm tt bs z c := by
  rcases findC_cases h with ⟨a, b⟩ | ⟨a, b, c⟩ | ⟨a, b, c, d⟩
  · exact .inl ⟨a, b⟩
  · exact .inr (.inl ⟨a, fun e => b e.1, c⟩)
  · exact .inr (.inr (.inr (.inr (.inl ⟨a, b, fun e => absurd e h3, h1, c, d⟩))))

/-- What was told is what stands told. -/
theorem doR_vd {p p' : PS} {dw : Int} {nm tt : ByteArray} {bs : List Nat} {z c : Int} {is : Bool} (hn : (p.con.map (·.1)).Nodup) (hop : 1 ≤ dw ∧ dw ≤ 5) (h : DoR p dw nm tt bs z c is p') :
    is = true ∧ ∃ v, Vd p dw nm tt bs z v ∧ ((v = 0 ∧ c = p.code ∧ p' = p.wrote (effF dw nm tt bs z)) ∨ (¬ v = 0 ∧ c = v ∧ p' = p)) := by
  rcases h with ⟨hd, hi, h⟩ | ⟨hd, hi, h⟩ | ⟨hd, hi, h⟩ | ⟨hd, hi, h⟩ | ⟨hd, hi, h⟩ | ⟨hd, _⟩
  · have h3 : ¬ dw = 3 := by omega
    refine ⟨hi, ?_⟩
    rcases h with ⟨h, h0, e⟩ | ⟨a, b, d, e, f⟩ | ⟨a, b, d, e, f⟩
    · refine ⟨c, ?_, .inr ⟨h0, rfl, e⟩⟩
      rcases refs_one h h0 with ⟨a, b⟩ | ⟨a, b, d⟩
      · exact .inl ⟨a, b⟩
      · exact .inr (.inl ⟨a, fun e => b e.1, d⟩)
    · exact ⟨103, .inr (.inr (.inl ⟨a, b, fun e => absurd e h3, hd, d, rfl⟩)), .inr ⟨by decide, e, f⟩⟩
    · exact ⟨0, .inr (.inr (.inr (.inl ⟨a, b, fun e => absurd e h3, hd, d, rfl⟩))), .inl ⟨rfl, e, by rw [f]; unfold effF; rw [if_pos hd]⟩⟩
  · have h1 : ¬ dw = 1 := by omega
    have h3 : ¬ dw = 3 := by omega
    refine ⟨hi, ?_⟩
    rcases h with ⟨h, e⟩ | ⟨a, b, bb, su, hm, h⟩
    · exact ⟨c, findC_vd h h1 h3, .inr ⟨h.1, rfl, e⟩⟩
    · have hg := get_of hn hm
      have hg1 : (Con.get p.con nm).1 = bb := by rw [hg]
      rcases h with ⟨d, e, f⟩ | ⟨d, e, f⟩
      · exact ⟨105, .inr (.inr (.inr (.inr (.inr (.inl ⟨a, b, fun e => absurd e h3, hd, ⟨_, hm, rfl⟩, by rw [hg1]; exact d, rfl⟩))))), .inr ⟨by decide, e, f⟩⟩
      · exact ⟨0, .inr (.inr (.inr (.inr (.inr (.inr ⟨a, b, fun e => absurd e h3, h1, ⟨_, hm, rfl⟩, fun _ => by rw [hg1]; exact d, rfl⟩))))), .inl ⟨rfl, e, by rw [f]; unfold effF; rw [if_neg h1, if_pos hd]⟩⟩
  · have h1 : ¬ dw = 1 := by omega
    have h2 : ¬ dw = 2 := by omega
    refine ⟨hi, ?_⟩
    rcases h with ⟨h, h0, e⟩ | ⟨a, b, b2, d, e, f⟩ | ⟨a, b, b2, d, e, f⟩
    · refine ⟨c, ?_, .inr ⟨h0, rfl, e⟩⟩
      rcases refs_pair h h0 with ⟨a, b⟩ | ⟨a, b, d⟩
      · exact .inl ⟨a, b⟩
      · exact .inr (.inl ⟨a, fun e => b ⟨e.1, e.2 hd⟩, d⟩)
    · exact ⟨102, .inr (.inr (.inr (.inr (.inl ⟨a, b, fun _ => b2, h1, d, rfl⟩)))), .inr ⟨by decide, e, f⟩⟩
    · exact ⟨0, .inr (.inr (.inr (.inr (.inr (.inr ⟨a, b, fun _ => b2, h1, d, fun e => absurd e h2, rfl⟩))))), .inl ⟨rfl, e, by rw [f]; unfold effF; rw [if_neg h1, if_neg h2, if_pos hd]⟩⟩
  · have h1 : ¬ dw = 1 := by omega
    have h2 : ¬ dw = 2 := by omega
    have h3 : ¬ dw = 3 := by omega
    refine ⟨hi, ?_⟩
    rcases h with ⟨h, e⟩ | ⟨a, b, d, e, f⟩
    · exact ⟨c, findC_vd h h1 h3, .inr ⟨h.1, rfl, e⟩⟩
    · exact ⟨0, .inr (.inr (.inr (.inr (.inr (.inr ⟨a, b, fun e => absurd e h3, h1, d, fun e => absurd e h2, rfl⟩))))), .inl ⟨rfl, e, by rw [f]; unfold effF; rw [if_neg h1, if_neg h2, if_neg h3, if_pos hd]⟩⟩
  · have h1 : ¬ dw = 1 := by omega
    have h2 : ¬ dw = 2 := by omega
    have h3 : ¬ dw = 3 := by omega
    have h4 : ¬ dw = 4 := by omega
    refine ⟨hi, ?_⟩
    rcases h with ⟨h, e⟩ | ⟨a, b, d, e, f⟩
    · exact ⟨c, findC_vd h h1 h3, .inr ⟨h.1, rfl, e⟩⟩
    · exact ⟨0, .inr (.inr (.inr (.inr (.inr (.inr ⟨a, b, fun e => absurd e h3, h1, d, fun e => absurd e h2, rfl⟩))))), .inl ⟨rfl, e, by rw [f]; unfold effF; rw [if_neg h1, if_neg h2, if_neg h3, if_neg h4]⟩⟩
  · omega

theorem doR_not {p p' : PS} {dw : Int} {nm tt : ByteArray} {bs : List Nat} {z c : Int} {is : Bool} (hop : ¬ (1 ≤ dw ∧ dw ≤ 5)) (h : DoR p dw nm tt bs z c is p') : is = false ∧ c = 0 ∧ p' = p := by
  rcases h with ⟨hd, _⟩ | ⟨hd, _⟩ | ⟨hd, _⟩ | ⟨hd, _⟩ | ⟨hd, _⟩ | ⟨_, a, b, c⟩
  · omega
  · omega
  · omega
  · omega
  · omega
  · exact ⟨a, b, c⟩

/-- The same files, in any order. -/
def Like (p q : PS) : Prop := p.con.Perm q.con ∧ p.off = q.off ∧ p.room = q.room

theorem has_perm {c d : Con} (h : c.Perm d) (n : ByteArray) : c.has n ↔ d.has n :=
  ⟨fun ⟨y, hy, e⟩ => ⟨y, h.mem_iff.1 hy, e⟩, fun ⟨y, hy, e⟩ => ⟨y, h.mem_iff.2 hy, e⟩⟩

theorem get_permT {c d : Con} (h : c.Perm d) (hn : (c.map (·.1)).Nodup) (n : ByteArray) : Con.get c n = Con.get d n := by
  by_cases hh : c.has n
  · obtain ⟨y, hy, rfl⟩ := hh
    rw [get_of hn hy, get_of ((h.map (·.1)).nodup_iff.1 hn) (h.mem_iff.1 hy)]
  · rw [get_no hh, get_no fun e => hh ((has_perm h n).2 e)]

theorem tot_perm {c d : Con} (h : c.Perm d) : Con.tot c = Con.tot d := by
  induction h with
  | nil => rfl
  | cons x _ ih => rw [Con.tot, Con.tot, ih]
  | swap x y l => rw [Con.tot, Con.tot, Con.tot, Con.tot]; omega
  | trans _ _ h1 h2 => exact h1.trans h2

theorem vd_like {p q : PS} (h : Like p q) (hn : (p.con.map (·.1)).Nodup) {dw : Int} {nm tt : ByteArray} {bs : List Nat} {z v : Int} (hv : Vd p dw nm tt bs z v) : Vd q dw nm tt bs z v := by
  have e1 : Fit p.con p.room nm bs.length = Fit q.con q.room nm bs.length := by
    unfold Fit
    rw [propext (has_perm h.1 nm), h.1.length_eq, tot_perm h.1, h.2.2]
  have e2 : p.con.has nm = q.con.has nm := propext (has_perm h.1 nm)
  have e3 := get_permT h.1 hn nm
  unfold Vd at hv ⊢
  rw [e1, e2, e3, h.2.1] at hv
  exact hv

theorem upd_perm {c d : Con} (h : c.Perm d) (nm : ByteArray) (g : List Nat × Nat → List Nat × Nat) : (Con.upd c nm g).Perm (Con.upd d nm g) := h.map _
theorem app_perm {c d : Con} (h : c.Perm d) (nm : ByteArray) (bs : List Nat) : (Con.app c nm bs).Perm (Con.app d nm bs) := by
  unfold Con.app
  have e : (c.any fun y => decide (y.1 = nm)) = d.any fun y => decide (y.1 = nm) := h.any_eq
  rw [e]
  split
  · exact upd_perm h _ _
  · exact h.append_right _
theorem puts_perm {c d : Con} (h : c.Perm d) (tn : ByteArray) (q : List Nat × Nat) : (Con.puts c tn q).Perm (Con.puts d tn q) := by
  unfold Con.puts
  have e : (c.any fun y => decide (y.1 = tn)) = d.any fun y => decide (y.1 = tn) := h.any_eq
  rw [e]
  split
  · exact upd_perm h _ _
  · exact h.append_right _

theorem eff_perm {c d : Con} (h : c.Perm d) (hn : (c.map (·.1)).Nodup) (dw : Int) (nm tt : ByteArray) (bs : List Nat) (z k : Int) : (effF dw nm tt bs z k c).Perm (effF dw nm tt bs z k d) := by
  unfold effF
  split
  · exact app_perm h _ _
  · split
    · exact upd_perm h _ _
    · split
      · unfold renameF
        rw [get_permT h hn]
        exact puts_perm (h.filter _) _ _
      · split
        · exact h.filter _
        · exact upd_perm h _ _

theorem eff_ok {c : Con} (h : ∀ y ∈ c, okN y.1) {dw : Int} {nm tt : ByteArray} (h1 : okN nm) (h2 : dw = 3 → okN tt) (bs : List Nat) (z k : Int) : ∀ y ∈ effF dw nm tt bs z k c, okN y.1 := by
  unfold effF
  split
  · exact app_ok h h1 _
  · split
    · exact upd_ok h _ _
    · split
      · rename_i h3
        exact puts_ok (drop_ok h nm) (h2 h3) _
      · split
        · exact drop_ok h nm
        · exact upd_ok h _ _

/-- How much is kept counts only where bytes are appended. -/
theorem eff_k {dw : Int} (h : ¬ dw = 1) (nm tt : ByteArray) (bs : List Nat) (z k k' : Int) (c : Con) : effF dw nm tt bs z k c = effF dw nm tt bs z k' c := by
  unfold effF
  rw [if_neg h]
  split
  · rfl
  · split
    · rfl
    · split <;> rfl

theorem vd_ok {p : PS} {dw : Int} {nm tt : ByteArray} {bs : List Nat} {z : Int} (h : Vd p dw nm tt bs z 0) : okN nm ∧ (dw = 3 → okN tt) := by
  rcases h with ⟨_, h⟩ | ⟨_, _, h⟩ | ⟨_, _, _, _, _, h⟩ | ⟨_, a, b, _⟩ | ⟨_, _, _, _, _, h⟩ | ⟨_, _, _, _, _, _, h⟩ | ⟨_, a, b, _⟩
  · exact absurd h (by decide)
  · exact absurd h (by decide)
  · exact absurd h (by decide)
  · exact ⟨a, b⟩
  · exact absurd h (by decide)
  · exact absurd h (by decide)
  · exact ⟨a, b⟩

theorem arms_next {p : PS} (h : p.arms) (c : Con) : (p.next c).arms := by
  obtain ⟨a, b, d⟩ := h
  exact ⟨by show p.ain - 1 ≤ _; omega, b, d⟩

/-- Two disks that hold the same, the power on, neither about to go. -/
structure GoI (i j : Nat) (p q : PS) : Prop where
  like : Like p q
  fin : ∀ y ∈ p.con, okN y.1
  off : p.off = false
  ain : p.ain ≠ 1 ∧ q.ain ≠ 1
  wr : p.wr ≤ i ∧ q.wr ≤ j
  arm : p.arms ∧ q.arms

theorem Like.symm {p q : PS} (h : Like p q) : Like q p := ⟨h.1.symm, h.2.1.symm, h.2.2.symm⟩

/-- A write at both. -/
theorem go_two {i j : Nat} {p q p' q' : PS} (h : GoI i j p q) (hn : (p.con.map (·.1)).Nodup) {dw : Int} {nm tt : ByteArray} {bs : List Nat} {z c y : Int} {is is2 : Bool} (ha : DoR p dw nm tt bs z c is p') (hb : DoR q dw nm tt bs z y is2 q') :
    is2 = is ∧ y = c ∧ ((p' = p ∧ q' = q) ∨ ((1 ≤ dw ∧ dw ≤ 5) ∧ Vd p dw nm tt bs z 0 ∧ c = 0 ∧ p' = p.next (effF dw nm tt bs z 9223372036854775807 p.con) ∧ q' = q.next (effF dw nm tt bs z 9223372036854775807 q.con))) := by
  by_cases hop : 1 ≤ dw ∧ dw ≤ 5
  · obtain ⟨rfl, v, hv, k1⟩ := doR_vd hn hop ha
    obtain ⟨rfl, v2, hv2, k2⟩ := doR_vd ((h.like.1.map (·.1)).nodup_iff.1 hn) hop hb
    have e := vd_one (vd_like h.like hn hv) hv2
    subst e
    have cp : p.code = 0 := if_neg h.ain.1
    have cq : q.code = 0 := if_neg h.ain.2
    rcases k1 with ⟨v0, c0, e1⟩ | ⟨v0, c0, e1⟩ <;> rcases k2 with ⟨v1, c1, e2⟩ | ⟨v1, c1, e2⟩
    · subst v0
      rw [cp] at c0
      rw [cq] at c1
      refine ⟨rfl, by rw [c0, c1], .inr ⟨hop, hv, c0, ?_, ?_⟩⟩
      · rw [e1]; exact if_neg h.ain.1
      · rw [e2]; exact if_neg h.ain.2
    · exact absurd v0 v1
    · exact absurd v1 v0
    · exact ⟨rfl, by rw [c0, c1], .inl ⟨e1, e2⟩⟩
  · obtain ⟨rfl, rfl, rfl⟩ := doR_not hop ha
    obtain ⟨rfl, rfl, rfl⟩ := doR_not hop hb
    exact ⟨rfl, rfl, .inl ⟨rfl, rfl⟩⟩

theorem like_next {p q : PS} (h : Like p q) (hn : (p.con.map (·.1)).Nodup) (dw : Int) (nm tt : ByteArray) (bs : List Nat) (z k : Int) : Like (p.next (effF dw nm tt bs z k p.con)) (q.next (effF dw nm tt bs z k q.con)) :=
  ⟨eff_perm h.1 hn dw nm tt bs z k, h.2.1, h.2.2⟩

theorem go_step {i j : Nat} {p q p' q' : PS} (h : GoI i j p q) (hz : p.ain = 0 ∧ q.ain = 0) (hn : (p.con.map (·.1)).Nodup) {dw : Int} {nm tt : ByteArray} {bs : List Nat} {z c y : Int} {is is2 : Bool} (ha : DoR p dw nm tt bs z c is p') (hb : DoR q dw nm tt bs z y is2 q') :
    is2 = is ∧ y = c ∧ GoI (i + 1) (j + 1) p' q' ∧ p'.ain = 0 ∧ q'.ain = 0 := by
  obtain ⟨e1, e2, h2⟩ := go_two h hn ha hb
  refine ⟨e1, e2, ?_⟩
  rcases h2 with ⟨rfl, rfl⟩ | ⟨_, hv, _, rfl, rfl⟩
  · exact ⟨⟨h.like, h.fin, h.off, h.ain, by have := h.wr; omega, h.arm⟩, hz⟩
  · obtain ⟨k1, k2⟩ := vd_ok hv
    have a1 : (p.next (effF dw nm tt bs z 9223372036854775807 p.con)).ain = 0 := by show p.ain - 1 = 0; omega
    have a2 : (q.next (effF dw nm tt bs z 9223372036854775807 q.con)).ain = 0 := by show q.ain - 1 = 0; omega
    exact ⟨⟨like_next h.like hn _ _ _ _ _ _, eff_ok h.fin k1 k2 _ _ _, h.off, by omega, by have := h.wr; exact ⟨by show p.wr + 1 ≤ _; omega, by show q.wr + 1 ≤ _; omega⟩, arms_next h.arm.1 _, arms_next h.arm.2 _⟩, a1, a2⟩

/-- Two disks alike, of which the second is armed. -/
structure TorI (n i : Nat) (keep lose : Int) (p q : PS) : Prop where
  like : Like p q
  fin : ∀ y ∈ p.con, okN y.1
  off : p.off = false
  ain : p.ain = 0 ∧ q.ain + p.wr = n ∧ p.wr < n
  wr : q.wr = p.wr ∧ p.wr ≤ i
  arm : p.arms ∧ q.arms
  kl : q.keep = keep ∧ q.lose = lose

theorem tor_step {n i : Nat} {keep lose : Int} {p q p' q' : PS} (h : TorI n i keep lose p q) (hn : (p.con.map (·.1)).Nodup) {dw : Int} {nm tt : ByteArray} {bs : List Nat} {z c y : Int} {is is2 : Bool} (hk : p.wr + 1 < n ∨ ¬ ((1 ≤ dw ∧ dw ≤ 5) ∧ Vd p dw nm tt bs z 0)) (ha : DoR p dw nm tt bs z c is p') (hb : DoR q dw nm tt bs z y is2 q') :
    is2 = is ∧ y = c ∧ TorI n (i + 1) keep lose p' q' := by
  by_cases hq : q.ain = 1
  · have hk2 : ¬ ((1 ≤ dw ∧ dw ≤ 5) ∧ Vd p dw nm tt bs z 0) := hk.resolve_left (by have := h.ain; omega)
    have hw := h.wr
    have key : is2 = is ∧ y = c ∧ p' = p ∧ q' = q := by
      by_cases hop : 1 ≤ dw ∧ dw ≤ 5
      · obtain ⟨rfl, v, hv, k1⟩ := doR_vd hn hop ha
        obtain ⟨rfl, v2, hv2, k2⟩ := doR_vd ((h.like.1.map (·.1)).nodup_iff.1 hn) hop hb
        have e := vd_one (vd_like h.like hn hv) hv2
        subst e
        rcases k1 with ⟨v0, _⟩ | ⟨v0, c0, e1⟩
        · subst v0; exact absurd ⟨hop, hv⟩ hk2
        · rcases k2 with ⟨v1, _⟩ | ⟨v1, c1, e2⟩
          · exact absurd v1 v0
          · exact ⟨rfl, by rw [c0, c1], e1, e2⟩
      · obtain ⟨rfl, rfl, rfl⟩ := doR_not hop ha
        obtain ⟨rfl, rfl, rfl⟩ := doR_not hop hb
        exact ⟨rfl, rfl, rfl, rfl⟩
    obtain ⟨e1, e2, rfl, rfl⟩ := key
    exact ⟨e1, e2, h.like, h.fin, h.off, h.ain, ⟨hw.1, by omega⟩, h.arm, h.kl⟩
  · have hg : GoI i i p q := ⟨h.like, h.fin, h.off, ⟨by have := h.ain; omega, hq⟩, ⟨h.wr.2, by have := h.wr; omega⟩, h.arm⟩
    obtain ⟨e1, e2, h2⟩ := go_two hg hn ha hb
    refine ⟨e1, e2, ?_⟩
    have hw := h.wr
    have hai := h.ain
    rcases h2 with ⟨rfl, rfl⟩ | ⟨_, hv, _, rfl, rfl⟩
    · exact ⟨h.like, h.fin, h.off, h.ain, ⟨hw.1, by omega⟩, h.arm, h.kl⟩
    · obtain ⟨k1, k2⟩ := vd_ok hv
      refine ⟨like_next h.like hn _ _ _ _ _ _, eff_ok h.fin k1 k2 _ _ _, h.off, ⟨by show p.ain - 1 = 0; omega, ?_, ?_⟩, ⟨?_, ?_⟩, ⟨arms_next h.arm.1 _, arms_next h.arm.2 _⟩, h.kl⟩
      · show q.ain - 1 + (p.wr + 1) = n; omega
      · show p.wr + 1 < n; omega
      · show q.wr + 1 = p.wr + 1; omega
      · show p.wr + 1 ≤ i + 1; omega

/-- What the torn write leaves ahead of the loss. -/
def tornC (keep : Int) (dw : Int) (nm tt : ByteArray) (bs : List Nat) (z : Int) (c : Con) : Con := if 0 < keep then effF dw nm tt bs z keep c else c

theorem tor_torn {n i : Nat} {keep lose : Int} {p q q' : PS} (h : TorI n i keep lose p q) (hn : (p.con.map (·.1)).Nodup) {dw : Int} {nm tt : ByteArray} {bs : List Nat} {z y : Int} {is2 : Bool} (hk : p.wr + 1 = n) (hop : 1 ≤ dw ∧ dw ≤ 5) (hv : Vd p dw nm tt bs z 0) (hb : DoR q dw nm tt bs z y is2 q') :
    y = 104 ∧ is2 = true ∧ q'.con = Con.each (tornC keep dw nm tt bs z q.con) (lostF lose) ∧ q'.off = true ∧ q'.ain = 0 ∧ q'.keep = 0 ∧ q'.lose = 0 ∧ q'.wr = n ∧ q'.room = q.room := by
  have hai := h.ain
  have hq : q.ain = 1 := by omega
  obtain ⟨rfl, v2, hv2, k2⟩ := doR_vd ((h.like.1.map (·.1)).nodup_iff.1 hn) hop hb
  have e := vd_one (vd_like h.like hn hv) hv2
  subst e
  rcases k2 with ⟨_, c1, e2⟩ | ⟨v1, _⟩
  · have cq : q.code = 104 := if_pos hq
    unfold PS.wrote at e2
    rw [if_pos hq, h.kl.1, h.kl.2] at e2
    subst e2
    refine ⟨by rw [c1, cq], rfl, rfl, rfl, rfl, rfl, rfl, ?_, rfl⟩
    show q.wr + 1 = n
    have := h.wr
    omega
  · exact absurd rfl v1

/-- What is told of a file's sure bytes. -/
def SureR (p : PS) (nm : ByteArray) (n c : Int) : Prop := (FindC p nm c ∧ n = 0) ∨ (p.off = false ∧ okN nm ∧ p.con.has nm ∧ c = 0 ∧ n = ((Con.get p.con nm).2 : Nat))

theorem sure_like {p q : PS} (h : Like p q) (hn : (p.con.map (·.1)).Nodup) {nm : ByteArray} {n c m d : Int} (h1 : SureR p nm n c) (h2 : SureR q nm m d) : n = m ∧ c = d := by
  have e2 := has_perm h.1 nm
  have e3 := get_permT h.1 hn nm
  have e4 := h.2.1
  rcases h1 with ⟨h1, rfl⟩ | ⟨a, b, c, rfl, rfl⟩
  · rcases h2 with ⟨h2, rfl⟩ | ⟨a, b, c, rfl, rfl⟩
    · refine ⟨rfl, ?_⟩
      rcases findC_cases h1 with ⟨a, b⟩ | ⟨a, b, c⟩ | ⟨a, b, c, d⟩ <;> rcases findC_cases h2 with ⟨a', b'⟩ | ⟨a', b', c'⟩ | ⟨a', b', c', d'⟩ <;> simp_all
    · exfalso
      rcases findC_cases h1 with ⟨a', b'⟩ | ⟨a', b', c'⟩ | ⟨a', b', c', d'⟩
      · rw [e4, a] at a'; cases a'
      · exact b' b
      · exact c' (e2.2 c)
  · rcases h2 with ⟨h2, rfl⟩ | ⟨a', b', c', rfl, rfl⟩
    · exfalso
      rcases findC_cases h2 with ⟨a', b'⟩ | ⟨a', b', c'⟩ | ⟨a', b', c', d'⟩
      · rw [← e4, a] at a'; cases a'
      · exact b' b
      · exact c' (e2.1 c)
    · exact ⟨by rw [e3], rfl⟩

end Go.Proofs.YtlandfghodfjdaaGreat

namespace Go.Proofs.YtlandfghodfjdaaGreat
open Go.RowKit
open Go.MuLone (lock_free unlock_deferred run_callFunc_enter)
set_option linter.unusedVariables false
set_option linter.unusedSimpArgs false

def Code2E (v : Value) (P : Int → Prop) (e : Ending) : Prop := ∃ c : Int, e = .returned (.tuple #[v, .int .i64 c]) ∧ P c

theorem findC_off {p : PS} {nm : ByteArray} {c : Int} (h : FindC p nm c) (ho : p.off = true) : c = 104 := by
  rcases findC_cases h with ⟨_, e⟩ | ⟨a, _⟩ | ⟨a, _⟩
  · exact e
  · rw [ho] at a; cases a
  · rw [ho] at a; cases a

set_option maxRecDepth 100000 in
theorem read_none {B : Nat} {S : DS} (w : World) (h : Dk B w 0 S) (nm : ByteArray) (hz : nm.size ≤ 140737488355328) (hn : ¬ (S.off = false ∧ okN nm ∧ ∃ x ∈ S.L, x.nm = nm)) : Calls Tryz.prog 27 #[.pointer (some ⟨S.d, 0, none⟩), .string nm] w fun e w' => Code2E (.slice none 0 0) (fun c => FindC S.ps nm c) e ∧ Dk B w' 0 S ∧ Fr w (Fp S) w' (Fp S) := by
  have l1 := h.cell 0 (.int .i32 0) rfl
  have l2 := frozen_of h.dk 0
  have HE : Hid (Dk B (w.setCell ⟨S.d, 0, none⟩ (.int .i32 1)) 1 S ∧ Fr w (Fp S) (w.setCell ⟨S.d, 0, none⟩ (.int .i32 1)) (Fp S)) := ⟨h.setLock 1, Fr.setCell (.inl rfl) _⟩
  have HN := hide hn
  clear h hn
  go_enter_defers Tryz.func27, Tryz.ntmps27
  go_wp2_with (first | (go_at_call 28; refine (lock_free muLib ⟨S.d, 0, none⟩ _ l1 l2).mono ?_; rintro e w2 ⟨rfl, hw2⟩; have H2 : Hid (Dk B w2 1 S ∧ Fr w (Fp S) w2 (Fp S)) := (by rw [hw2]; exact HE.out); clear hw2 l1 l2) | (go_at_call 51; refine (find_any _ H2.out.1 nm hz).mono ?_; rintro e w3 ⟨hE, hB3⟩; obtain ⟨q, c, rfl, hF⟩ := hE; obtain ⟨rfl, hc0, hFC⟩ := finds_no hF HN.out; have HC := hide hFC; have H3 : Hid (Dk B w3 1 S ∧ Fr w (Fp S) w3 (Fp S)) := ⟨H2.out.1.below hB3, H2.out.2.trans (Fr.of_below hB3)⟩; clear hB3 hF hFC))
  have HZ := hide (door_of H3.out.1 rfl)
  refine leaves_cons (f := 29) (args := #[.pointer (some ⟨S.d, 0, none⟩)]) (by simp) (by simp [go_sem]) ?_
  refine (unlock_deferred muLib ⟨S.d, 0, none⟩ .returning _ ?_ ?_).mono ?_
  · exact HZ.out.1
  · exact HZ.out.2.1
  rintro e u' w'' ⟨rfl, rfl, rfl⟩
  exact ⟨_, results_tmp2 rfl _ _ _, ⟨c, rfl, HC.out⟩, HZ.out.2.2.1, H3.out.2.trans HZ.out.2.2.2⟩

set_option maxRecDepth 100000 in
theorem readAt_none {B : Nat} {S : DS} (w : World) (h : Dk B w 0 S) (nm : ByteArray) (hz : nm.size ≤ 140737488355328) (k m : Int) (hn : ¬ (S.off = false ∧ okN nm ∧ ∃ x ∈ S.L, x.nm = nm)) : Calls Tryz.prog 41 #[.pointer (some ⟨S.d, 0, none⟩), .string nm, .int .i64 k, .int .i64 m] w fun e w' => Code2E (.slice none 0 0) (fun c => FindC S.ps nm c) e ∧ Dk B w' 0 S ∧ Fr w (Fp S) w' (Fp S) := by
  have l1 := h.cell 0 (.int .i32 0) rfl
  have l2 := frozen_of h.dk 0
  have HE : Hid (Dk B (w.setCell ⟨S.d, 0, none⟩ (.int .i32 1)) 1 S ∧ Fr w (Fp S) (w.setCell ⟨S.d, 0, none⟩ (.int .i32 1)) (Fp S)) := ⟨h.setLock 1, Fr.setCell (.inl rfl) _⟩
  have HN := hide hn
  clear h hn
  go_enter_defers Tryz.func41, Tryz.ntmps41
  go_wp2_with (first | (go_at_call 28; refine (lock_free muLib ⟨S.d, 0, none⟩ _ l1 l2).mono ?_; rintro e w2 ⟨rfl, hw2⟩; have H2 : Hid (Dk B w2 1 S ∧ Fr w (Fp S) w2 (Fp S)) := (by rw [hw2]; exact HE.out); clear hw2 l1 l2) | (go_at_call 51; refine (find_any _ H2.out.1 nm hz).mono ?_; rintro e w3 ⟨hE, hB3⟩; obtain ⟨q, c, rfl, hF⟩ := hE; obtain ⟨rfl, hc0, hFC⟩ := finds_no hF HN.out; have HC := hide hFC; have H3 : Hid (Dk B w3 1 S ∧ Fr w (Fp S) w3 (Fp S)) := ⟨H2.out.1.below hB3, H2.out.2.trans (Fr.of_below hB3)⟩; clear hB3 hF hFC))
  have HZ := hide (door_of H3.out.1 rfl)
  refine leaves_cons (f := 29) (args := #[.pointer (some ⟨S.d, 0, none⟩)]) (by simp) (by simp [go_sem]) ?_
  refine (unlock_deferred muLib ⟨S.d, 0, none⟩ .returning _ ?_ ?_).mono ?_
  · exact HZ.out.1
  · exact HZ.out.2.1
  rintro e u' w'' ⟨rfl, rfl, rfl⟩
  exact ⟨_, results_tmp2 rfl _ _ _, ⟨c, rfl, HC.out⟩, HZ.out.2.2.1, H3.out.2.trans HZ.out.2.2.2⟩

set_option maxRecDepth 100000 in
theorem size_none {B : Nat} {S : DS} (w : World) (h : Dk B w 0 S) (nm : ByteArray) (hz : nm.size ≤ 140737488355328) (hn : ¬ (S.off = false ∧ okN nm ∧ ∃ x ∈ S.L, x.nm = nm)) : Calls Tryz.prog 40 #[.pointer (some ⟨S.d, 0, none⟩), .string nm] w fun e w' => Code2E (.int .i64 0) (fun c => FindC S.ps nm c) e ∧ Dk B w' 0 S ∧ Fr w (Fp S) w' (Fp S) := by
  have l1 := h.cell 0 (.int .i32 0) rfl
  have l2 := frozen_of h.dk 0
  have HE : Hid (Dk B (w.setCell ⟨S.d, 0, none⟩ (.int .i32 1)) 1 S ∧ Fr w (Fp S) (w.setCell ⟨S.d, 0, none⟩ (.int .i32 1)) (Fp S)) := ⟨h.setLock 1, Fr.setCell (.inl rfl) _⟩
  have HN := hide hn
  clear h hn
  go_enter_defers Tryz.func40, Tryz.ntmps40
  go_wp2_with (first | (go_at_call 28; refine (lock_free muLib ⟨S.d, 0, none⟩ _ l1 l2).mono ?_; rintro e w2 ⟨rfl, hw2⟩; have H2 : Hid (Dk B w2 1 S ∧ Fr w (Fp S) w2 (Fp S)) := (by rw [hw2]; exact HE.out); clear hw2 l1 l2) | (go_at_call 51; refine (find_any _ H2.out.1 nm hz).mono ?_; rintro e w3 ⟨hE, hB3⟩; obtain ⟨q, c, rfl, hF⟩ := hE; obtain ⟨rfl, hc0, hFC⟩ := finds_no hF HN.out; have HC := hide hFC; have H3 : Hid (Dk B w3 1 S ∧ Fr w (Fp S) w3 (Fp S)) := ⟨H2.out.1.below hB3, H2.out.2.trans (Fr.of_below hB3)⟩; clear hB3 hF hFC))
  have HZ := hide (door_of H3.out.1 rfl)
  refine leaves_cons (f := 29) (args := #[.pointer (some ⟨S.d, 0, none⟩)]) (by simp) (by simp [go_sem]) ?_
  refine (unlock_deferred muLib ⟨S.d, 0, none⟩ .returning _ ?_ ?_).mono ?_
  · exact HZ.out.1
  · exact HZ.out.2.1
  rintro e u' w'' ⟨rfl, rfl, rfl⟩
  exact ⟨_, results_tmp2 rfl _ _ _, ⟨c, rfl, HC.out⟩, HZ.out.2.2.1, H3.out.2.trans HZ.out.2.2.2⟩

set_option maxRecDepth 100000 in
theorem sure_none {B : Nat} {S : DS} (w : World) (h : Dk B w 0 S) (nm : ByteArray) (hz : nm.size ≤ 140737488355328) (hn : ¬ (S.off = false ∧ okN nm ∧ ∃ x ∈ S.L, x.nm = nm)) : Calls Tryz.prog 42 #[.pointer (some ⟨S.d, 0, none⟩), .string nm] w fun e w' => Code2E (.int .i64 0) (fun c => FindC S.ps nm c) e ∧ Dk B w' 0 S ∧ Fr w (Fp S) w' (Fp S) := by
  have l1 := h.cell 0 (.int .i32 0) rfl
  have l2 := frozen_of h.dk 0
  have HE : Hid (Dk B (w.setCell ⟨S.d, 0, none⟩ (.int .i32 1)) 1 S ∧ Fr w (Fp S) (w.setCell ⟨S.d, 0, none⟩ (.int .i32 1)) (Fp S)) := ⟨h.setLock 1, Fr.setCell (.inl rfl) _⟩
  have HN := hide hn
  clear h hn
  go_enter_defers Tryz.func42, Tryz.ntmps42
  go_wp2_with (first | (go_at_call 28; refine (lock_free muLib ⟨S.d, 0, none⟩ _ l1 l2).mono ?_; rintro e w2 ⟨rfl, hw2⟩; have H2 : Hid (Dk B w2 1 S ∧ Fr w (Fp S) w2 (Fp S)) := (by rw [hw2]; exact HE.out); clear hw2 l1 l2) | (go_at_call 51; refine (find_any _ H2.out.1 nm hz).mono ?_; rintro e w3 ⟨hE, hB3⟩; obtain ⟨q, c, rfl, hF⟩ := hE; obtain ⟨rfl, hc0, hFC⟩ := finds_no hF HN.out; have HC := hide hFC; have H3 : Hid (Dk B w3 1 S ∧ Fr w (Fp S) w3 (Fp S)) := ⟨H2.out.1.below hB3, H2.out.2.trans (Fr.of_below hB3)⟩; clear hB3 hF hFC))
  have HZ := hide (door_of H3.out.1 rfl)
  refine leaves_cons (f := 29) (args := #[.pointer (some ⟨S.d, 0, none⟩)]) (by simp) (by simp [go_sem]) ?_
  refine (unlock_deferred muLib ⟨S.d, 0, none⟩ .returning _ ?_ ?_).mono ?_
  · exact HZ.out.1
  · exact HZ.out.2.1
  rintro e u' w'' ⟨rfl, rfl, rfl⟩
  exact ⟨_, results_tmp2 rfl _ _ _, ⟨c, rfl, HC.out⟩, HZ.out.2.2.1, H3.out.2.trans HZ.out.2.2.2⟩

set_option maxRecDepth 100000 in
theorem names_off {B : Nat} {S : DS} (w : World) (h : Dk B w 0 S) (hoff : S.off = true) : Calls Tryz.prog 39 #[.pointer (some ⟨S.d, 0, none⟩)] w fun e w' => e = .returned (.tuple #[.slice none 0 0, .int .i64 104]) ∧ Dk B w' 0 S ∧ Fr w (Fp S) w' (Fp S) := by
  have l1 := h.cell 0 (.int .i32 0) rfl
  have l2 := frozen_of h.dk 0
  have HE : Hid (Dk B (w.setCell ⟨S.d, 0, none⟩ (.int .i32 1)) 1 S ∧ Fr w (Fp S) (w.setCell ⟨S.d, 0, none⟩ (.int .i32 1)) (Fp S)) := ⟨h.setLock 1, Fr.setCell (.inl rfl) _⟩
  have ho7 := hide hoff
  clear h
  go_enter_defers Tryz.func39, Tryz.ntmps39
  go_wp2_with (first | (go_at_call 28; refine (lock_free muLib ⟨S.d, 0, none⟩ _ l1 l2).mono ?_; rintro e w2 ⟨rfl, hw2⟩; have H2 : Hid (Dk B w2 1 S ∧ Fr w (Fp S) w2 (Fp S)) := (by rw [hw2]; exact HE.out); have c7 := H2.out.1.cell 4 (.bool S.off) rfl; rw [ho7.out] at c7; clear hw2 l1 l2))
  have HZ := hide (door_of H2.out.1 rfl)
  refine leaves_cons (f := 29) (args := #[.pointer (some ⟨S.d, 0, none⟩)]) (by simp) (by simp [go_sem]) ?_
  refine (unlock_deferred muLib ⟨S.d, 0, none⟩ .returning _ ?_ ?_).mono ?_
  · exact HZ.out.1
  · exact HZ.out.2.1
  rintro e u' w'' ⟨rfl, rfl, rfl⟩
  exact ⟨_, results_tmp2 rfl _ _ _, rfl, HZ.out.2.2.1, H2.out.2.trans HZ.out.2.2.2⟩

theorem sure_all {B : Nat} {S : DS} (w : World) (h : Dk B w 0 S) (nm : ByteArray) (hz : nm.size ≤ 140737488355328) : Calls Tryz.prog 42 #[.pointer (some ⟨S.d, 0, none⟩), .string nm] w fun e w' => ∃ n c : Int, e = .returned (.tuple #[.int .i64 n, .int .i64 c]) ∧ SureR S.ps nm n c ∧ Dk B w' 0 S ∧ Fr w (Fp S) w' (Fp S) := by
  by_cases hn : S.off = false ∧ okN nm ∧ ∃ x ∈ S.L, x.nm = nm
  · obtain ⟨a, b, x, hx, rfl⟩ := hn
    refine (sure_any w h a x hx b).mono ?_
    rintro e w' ⟨rfl, k1, k2⟩
    exact ⟨_, 0, rfl, .inr ⟨a, b, (has_iff S _).2 ⟨x, hx, rfl⟩, rfl, by rw [con_get h hx]⟩, k1, k2⟩
  · refine (sure_none w h nm hz hn).mono ?_
    rintro e w' ⟨⟨c, rfl, hc⟩, k1, k2⟩
    exact ⟨0, c, rfl, .inl ⟨hc, rfl⟩, k1, k2⟩

end Go.Proofs.YtlandfghodfjdaaGreat

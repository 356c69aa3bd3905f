/- The law's done of what a write was told to have made. -/
import Derived.Test.YtlandfghodfjdaaGreatJ15N
import Derived.Test.YtlandfghodfjdaaGreatJ15H
namespace Go.Proofs.YtlandfghodfjdaaGreat
open Go.RowKit
set_option linter.unusedVariables false
set_option linter.unusedSimpArgs false

theorem bel_drewN (w : World) (N : Nat) : Below w.heap.size w (w.drewN N) := ⟨rfl, rfl, rfl, Nat.le_refl _, fun _ _ => rfl⟩

theorem file_at {w : World} {v : Value} {ys : List Value} {fs : List (ByteArray × List Nat)} {nm : ByteArray} (h : FilesR w v ys fs) (hl : fs.length ≤ 1000000) {u : Value} {b : Bool} (hu : (lookF fs ys nm).getD (.slice none 0 0) = u ∧ (lookF fs ys nm).isSome = b) :
    ∀ w1, Below w.heap.size w w1 → Calls Tryz.prog 13 #[v, .string nm] w1 fun e w2 => e = .returned (.tuple #[u, .bool b]) ∧ Below w1.heap.size w1 w2 := fun w1 hb => by
  refine (file_any v ys fs nm w1 (h.below hb) hl).mono ?_
  rintro e w2 ⟨rfl, N, rfl⟩
  rw [hu.1, hu.2]
  exact ⟨rfl, bel_drewN w1 N⟩

theorem strOf_app (a b : List Nat) : strOf a ++ strOf b = strOf (a ++ b) := by
  apply ByteArray.ext
  apply Array.toList_inj.1
  rw [ByteArray.data_append, Array.toList_append]
  unfold strOf
  rw [strOfNums_data, strOfNums_data, strOfNums_data]
  simp

section
variable {B0 B' : Nat} {w0 w : World} {S S' : DS} {v v' : Value} {ys ys' : List Value} {ns ns' : List ByteArray}

theorem was_got (hD : Dk B0 w0 0 S) (hg : FilesGot w0 v S ys ns) {w2 : World} {S2 : DS} (hW : Was w2 S2 v ys (filesOf S ns)) {n : ByteArray} (hn : S.ps.con.has n) : ∃ u, lookF (filesOf S ns) ys n = some u ∧ IsBy w2 u (Con.get S.ps.con n).1 ∧ Gv (Qo w2 S2) u := by
  obtain ⟨u, hu, _⟩ := look_got hD hg hn
  have h1 := look_is n (filesOf S ns) ys hW.fr.1 hW.row
  rw [hu, lookB_of S n ns ((got_has hg n).1 hn), bytes_con hD] at h1
  exact ⟨u, hu, h1.1, h1.2⟩

theorem gv_cy {w : World} {Q : Nat → Prop} {u : Value} {bs : List Nat} (h : IsBy w u bs) (hg : Gv Q u) : ∃ p c, u = .slice p bs.length c ∧ Cy w p bs.length c bs := by
  obtain ⟨p, c, rfl, _⟩ := by_slice h
  obtain ⟨p', l, c', e, h1, h2, _⟩ := hg
  simp only [Value.slice.injEq] at e
  obtain ⟨rfl, rfl, rfl⟩ := e
  exact ⟨p, c, rfl, h, rfl, h1, h2⟩

/-- What holds of two rows of files and a write between them. -/
structure DnH (w0 w : World) (B0 B' : Nat) (S S' : DS) (v v' : Value) (ys ys' : List Value) (ns ns' : List ByteArray) : Prop where
  d0 : Dk B0 w0 0 S
  g0 : FilesGot w0 v S ys ns
  was : Was w S' v ys (filesOf S ns)
  dk : Dk B' w 0 S'
  now : Was w S' v' ys' (filesOf S' ns')
  perm : ns'.Perm (S'.L.map (·.nm))
  ord : inOrder ns'
  fin : ∀ y ∈ S.ps.con, okN y.1

theorem DnH.got (h : DnH w0 w B0 B' S S' v v' ys ys' ns ns') : FilesGot w v' S' ys' ns' := h.now.got h.perm h.ord
theorem DnH.below (h : DnH w0 w B0 B' S S' v v' ys ys' ns ns') {w1 : World} (hb : Below w.heap.size w w1) : DnH w0 w1 B0 B' S S' v v' ys ys' ns ns' :=
  ⟨h.d0, h.g0, h.was.below hb, h.dk.below hb, h.now.below hb, h.perm, h.ord, h.fin⟩
theorem DnH.c0 (h : DnH w0 w B0 B' S S' v v' ys ys' ns ns') : (filesOf S ns).length ≤ 256 := by
  have h1 := h.g0.2.2.2.1.length_eq; rw [List.length_map] at h1; rw [filesOf_len, h1]; exact h.d0.ct
theorem DnH.c1 (h : DnH w0 w B0 B' S S' v v' ys ys' ns ns') : (filesOf S' ns').length ≤ 256 := by
  have h1 := h.perm.length_eq; rw [List.length_map] at h1; rw [filesOf_len, h1]; exact h.dk.ct

theorem DnH.others (h : DnH w0 w B0 B' S S' v v' ys ys' ns ns') {dw : Int} {nm tt : ByteArray} {bs : List Nat} {z : Int} (hd : DoH S.ps.con dw nm tt bs z S'.ps.con) :
    ∀ w1, Below w.heap.size w w1 → Calls Tryz.prog 37 #[v, v', .string nm, .string (alsoN dw nm tt)] w1 fun e w2 => e = .returned (.bool true) ∧ Below w1.heap.size w1 w2 := fun w1 hb => by
  have h1 := h.below hb
  exact others_doH h.d0 h.g0 h1.was.fr h1.was.rows h1.dk h1.got h.fin hd

theorem DnH.same (h : DnH w0 w B0 B' S S' v v' ys ys' ns ns') (hh : ∀ n, S'.ps.con.has n ↔ S.ps.con.has n) (hg : ∀ n, (Con.get S'.ps.con n).1 = (Con.get S.ps.con n).1) :
    ∀ w1, Below w.heap.size w w1 → Calls Tryz.prog 14 #[v, v'] w1 fun e w2 => e = .returned (.bool true) ∧ Below w1.heap.size w1 w2 := fun w1 hb => by
  have h1 := h.below hb
  obtain ⟨rfl, e⟩ := files_same h.d0 h.dk h.g0.2.2.2.1 h.perm h.g0.2.2.2.2 h.ord hh hg
  have k1 := h1.now.fr
  have k2 := h1.now.rows
  rw [e] at k1 k2
  exact eqFiles_same v v' ys ys' _ w1 h1.was.fr k1 h1.was.rows k2 (by have := h.c0; omega) fun x hx => by have := files_le h.d0 _ x hx; omega

theorem DnH.was1 (h : DnH w0 w B0 B' S S' v v' ys ys' ns ns') {n : ByteArray} (hn : S.ps.con.has n) : ∃ u, (∀ w1, Below w.heap.size w w1 → Calls Tryz.prog 13 #[v, .string n] w1 fun e w2 => e = .returned (.tuple #[u, .bool true]) ∧ Below w1.heap.size w1 w2) ∧ IsBy w u (Con.get S.ps.con n).1 ∧ Gv (Qo w S') u := by
  obtain ⟨u, hu, k1, k2⟩ := was_got h.d0 h.g0 h.was hn
  exact ⟨u, file_at h.was.fr (by have := h.c0; omega) (by rw [hu]; exact ⟨rfl, rfl⟩), k1, k2⟩

theorem DnH.was0 (h : DnH w0 w B0 B' S S' v v' ys ys' ns ns') {n : ByteArray} (hn : ¬ S.ps.con.has n) : ∀ w1, Below w.heap.size w w1 → Calls Tryz.prog 13 #[v, .string n] w1 fun e w2 => e = .returned (.tuple #[.slice none 0 0, .bool false]) ∧ Below w1.heap.size w1 w2 :=
  file_at h.was.fr (by have := h.c0; omega) (by rw [look_not h.g0 hn]; exact ⟨rfl, rfl⟩)

theorem DnH.now1 (h : DnH w0 w B0 B' S S' v v' ys ys' ns ns') {n : ByteArray} (hn : S'.ps.con.has n) : ∃ u, (∀ w1, Below w.heap.size w w1 → Calls Tryz.prog 13 #[v', .string n] w1 fun e w2 => e = .returned (.tuple #[u, .bool true]) ∧ Below w1.heap.size w1 w2) ∧ IsBy w u (Con.get S'.ps.con n).1 ∧ Gv (Qo w S') u := by
  obtain ⟨u, hu, k1, k2⟩ := look_got h.dk h.got hn
  exact ⟨u, file_at h.now.fr (by have := h.c1; omega) (by rw [hu]; exact ⟨rfl, rfl⟩), k1, k2⟩

theorem DnH.now0 (h : DnH w0 w B0 B' S S' v v' ys ys' ns ns') {n : ByteArray} (hn : ¬ S'.ps.con.has n) : ∀ w1, Below w.heap.size w w1 → Calls Tryz.prog 13 #[v', .string n] w1 fun e w2 => e = .returned (.tuple #[.slice none 0 0, .bool false]) ∧ Below w1.heap.size w1 w2 :=
  file_at h.now.fr (by have := h.c1; omega) (by rw [look_not h.got hn]; exact ⟨rfl, rfl⟩)

theorem get_le {c : Con} (h : c.fine) (n : ByteArray) : (Con.get c n).1.length ≤ 268435456 := by
  by_cases hn : c.has n
  · obtain ⟨y, hy, rfl⟩ := hn
    rw [get_of h.1 hy]; exact h.2.2.2 y hy
  · rw [get_no hn]; exact Nat.zero_le _

theorem eq_at {w : World} {va vb : Value} {bs : List Nat} (ha : IsBy w va bs) (hb : IsBy w vb bs) (hl : bs.length ≤ 140737488355328) : ∀ w1, Below w.heap.size w w1 → Calls Tryz.prog 38 #[va, vb] w1 fun e w2 => e = .returned (.bool true) ∧ Below w1.heap.size w1 w2 := fun w1 h => by
  refine (eq_same va vb bs w1 (isBy_below ha h) (isBy_below hb h) hl).mono ?_
  rintro e w2 ⟨rfl, N, rfl⟩
  exact ⟨rfl, bel_drewN w1 N⟩

theorem done_all (h : DnH w0 w B0 B' S S' v v' ys ys' ns ns') (dw on : Int) (nm tt : ByteArray) (pb : Option Addr) (nb cb : Nat) (z kp ls : Int) (fl : Value) (bs : List Nat) (hby : IsBy w (.slice pb nb cb) bs) (hnb : bs.length ≤ 1000000000) (hd : DoH S.ps.con dw nm tt bs z S'.ps.con) :
    Calls Tryz.prog 15 #[v, v', opV dw on nm tt (.slice pb nb cb) z kp ls fl] w fun e w' => e = .returned (.bool true) ∧ Below w.heap.size w w' := by
  have hdw : dw = 1 ∨ dw = 2 ∨ dw = 3 ∨ dw = 4 ∨ dw = 5 := by
    rcases hd with h | h | h | h | h
    · exact .inl h.1
    · exact .inr (.inl h.1)
    · exact .inr (.inr (.inl h.1))
    · exact .inr (.inr (.inr (.inl h.1)))
    · exact .inr (.inr (.inr (.inr h.1)))
  have hfine := h.d0.fine h.fin
  have hO := h.others hd
  rcases hdw with e | e | e | e | e
  · have ha : alsoN dw nm tt = nm := if_neg (by omega)
    rw [ha] at hO
    obtain ⟨k1, k2⟩ := doH_app hd e
    obtain ⟨u2, q1, q2, q3⟩ := h.now1 k1
    rw [k2] at q2
    have hlen := get_le hfine nm
    have hno : ¬ ((strOf (Con.get S.ps.con nm).1).size + (strOf bs).size > 9223372036854775807) := by
      rw [strOf_size, strOf_size]; omega
    by_cases hn : S.ps.con.has nm
    · obtain ⟨u1, p1, p2, p3⟩ := h.was1 hn
      exact done_app v v' u1 u2 dw on nm tt pb nb cb z kp ls fl w e _ _ _ true hno (strOf_app _ _) p1 q1 (fun w1 hb => convert_by w1 u2 _ (isBy_below q2 hb)) (fun w1 hb => convert_by w1 u1 _ (isBy_below p2 hb)) (fun w1 hb => convert_by w1 _ _ (isBy_below hby hb)) hO
    · have p2 : IsBy w (.slice none 0 0) (Con.get S.ps.con nm).1 := by rw [get_no hn]; exact isBy_nil w
      exact done_app v v' _ u2 dw on nm tt pb nb cb z kp ls fl w e _ _ _ false hno (strOf_app _ _) (h.was0 hn) q1 (fun w1 hb => convert_by w1 u2 _ (isBy_below q2 hb)) (fun w1 hb => convert_by w1 _ _ (isBy_below p2 hb)) (fun w1 hb => convert_by w1 _ _ (isBy_below hby hb)) hO
  · have ha : alsoN dw nm tt = nm := if_neg (by omega)
    rw [ha] at hO
    obtain ⟨k0, k1, k2, k3, k4⟩ := doH_cut hd e
    obtain ⟨u1, p1, p2, p3⟩ := h.was1 k0
    obtain ⟨u2, q1, q2, q3⟩ := h.now1 k1
    obtain ⟨pa, ca, rfl, hc⟩ := gv_cy p2 p3
    rw [k4] at q2
    have hlen := get_le hfine nm
    obtain ⟨k, rfl⟩ : ∃ k : Nat, z = (k : Int) := ⟨z.toNat, by omega⟩
    rw [Int.toNat_natCast] at q2
    obtain ⟨pL, r1, r2, _⟩ := cy_to hc k (by omega) (by omega)
    refine done_cut v v' u2 dw on nm tt pb nb cb (k : Int) kp ls fl w e pa pL _ ca k rfl (by omega) (by omega) r1 p1 q1 (eq_at q2 r2.1 (by rw [List.length_take]; omega)) hO
  · obtain ⟨k0, k1, k2, k3, k4⟩ := doH_ren hd e
    obtain ⟨u1, p1, p2, p3⟩ := h.was1 k0
    obtain ⟨u3, q1, q2, q3⟩ := h.now1 k1
    have ha : alsoN dw nm tt = tt := if_pos e
    rw [ha] at hO
    by_cases hne : nm = tt
    · have k5 := k4 hne
      exact done_same v v' u1 u3 dw on nm tt pb nb cb z kp ls fl w e u3 true true hne p1 (by rw [hne]; exact q1) (by rw [hne]; exact q1) (h.same (fun n => (k5 n).1) fun n => by rw [(k5 n).2])
    · rw [k2] at q2
      exact done_ren v v' u1 _ dw on nm tt pb nb cb z kp ls fl w e u3 hne p1 (h.now0 (k3 hne)) q1 (eq_at q2 p2 (by have := get_le hfine nm; omega)) hO
  · have ha : alsoN dw nm tt = nm := if_neg (by omega)
    rw [ha] at hO
    obtain ⟨k0, k1⟩ := doH_rem hd e
    obtain ⟨u1, p1, p2, p3⟩ := h.was1 k0
    exact done_rem v v' u1 _ dw on nm tt pb nb cb z kp ls fl w e p1 (h.now0 k1) hO
  · obtain ⟨k0, k1, k2⟩ := doH_syn hd e
    obtain ⟨u1, p1, p2, p3⟩ := h.was1 k0
    obtain ⟨u2, q1, q2, q3⟩ := h.now1 ((k1 nm).2 k0)
    exact done_syn v v' u1 u2 dw on nm tt pb nb cb z kp ls fl w e true p1 q1 (h.same k1 k2)
end

end Go.Proofs.YtlandfghodfjdaaGreat

/- DiskLimits' walk. -/
import Derived.Test.YtiblnkiecpcdpaaJ14G
import Derived.Great.BuildSlice
import Derived.Lib.SmallJoins
namespace Go.Proofs.Ytiblnkiecpcdpaa
open Go.RowKit
set_option linter.unusedVariables false
set_option linter.unusedSimpArgs false

def badR : List Int := [-9223372036854775808, -1, 0, 268435457, 9223372036854775807]
theorem room_at {w : World} {g : Nat} (h : w.heap[g]? = some (.cells #[.int .i64 (-9223372036854775808), .int .i64 (-1), .int .i64 (0), .int .i64 (268435457), .int .i64 (9223372036854775807)] 3 (0, 0))) (i : Nat) (hi : i < 5) : ∃ z : Int, w.cell? ⟨g, i, none⟩ = some (.int .i64 z) ∧ ¬ (1 ≤ z ∧ z ≤ 268435456) := by
  rw [cell_of_row _ _ _ _ _ _ h]
  match i, hi with
  | 0, _ => exact ⟨_, rfl, by decide⟩
  | 1, _ => exact ⟨_, rfl, by decide⟩
  | 2, _ => exact ⟨_, rfl, by decide⟩
  | 3, _ => exact ⟨_, rfl, by decide⟩
  | 4, _ => exact ⟨_, rfl, by decide⟩

/-- The long name's bytes while they are laid. -/
def LgI (g : Nat) (w : World) (k : Nat) : Prop := ∃ cur : Array Value, w.heap[g]? = some (.cells cur 5 (0, 0)) ∧ cur.size = 65 ∧ ∀ j, j < k → cur[j]? = some (.int .u8 120)
theorem LgI.cell {g : Nat} {w : World} {k : Nat} (h : LgI g w k) (j : Nat) (hj : j < 65) : ∃ u, w.cell? ⟨g, j, none⟩ = some u := by
  obtain ⟨cur, h1, h2, _⟩ := h
  exact ⟨cur[j]'(by omega), by rw [cell_of_row _ _ _ _ _ _ h1, Array.getElem?_eq_getElem (by omega)]⟩
theorem LgI.frozen {g : Nat} {w : World} {k : Nat} (h : LgI g w k) (j : Nat) : w.frozen? ⟨g, j, none⟩ = false := by
  obtain ⟨cur, h1, _⟩ := h
  exact frozen_of h1 j
theorem LgI.set {g : Nat} {w : World} {k : Nat} (h : LgI g w k) (hk : k < 65) : LgI g (w.setCell ⟨g, k, none⟩ (.int .u8 120)) (k + 1) := by
  obtain ⟨cur, h1, h2, h3⟩ := h
  refine ⟨cur.setIfInBounds k (.int .u8 120), heap_set_at h1 _, by simp [h2], fun j hj => ?_⟩
  by_cases e : j = k
  · subst e; simp [h2, hk]
  · rw [Array.getElem?_setIfInBounds_ne (Ne.symm e)]; exact h3 j (by omega)
theorem LgI.below {g : Nat} {w w' : World} {k : Nat} (h : LgI g w k) (hb : Below w.heap.size w w') : LgI g w' k := by
  obtain ⟨cur, h1, h2, h3⟩ := h
  exact ⟨cur, (hb.block g (heap_lt h1)).trans h1, h2, h3⟩
theorem LgI.is {g : Nat} {w : World} (h : LgI g w 65) : IsBy w (.slice (some ⟨g, 0, none⟩) 65 65) (List.replicate 65 120) ∧ IsBy w (.slice (some ⟨g, 0, none⟩) 64 65) (List.replicate 64 120) := by
  obtain ⟨cur, h1, h2, h3⟩ := h
  have h4 : ∀ n, n ≤ 65 → IsBy w (.slice (some ⟨g, 0, none⟩) n 65) (List.replicate n 120) := fun n hn => .inl (.inr ⟨g, 0, 65, by simp, fun j hj => by
    have hj' : j < n := by simpa using hj
    rw [cell_of_row _ _ _ _ _ _ h1, Nat.zero_add, h3 j (by omega)]
    simp [List.getD, hj']⟩)
  exact ⟨h4 65 (by decide), h4 64 (by decide)⟩
theorem Lm.setOwn {w w1 : World} {d n g : Nat} {S : DS} (h : Lm w w1 d n S) (hg : w.heap.size ≤ g) (hf : ¬ Fp S g) (i : Nat) (v : Value) : Lm w (w1.setCell ⟨g, i, none⟩ v) d n S := by
  have hk := fun k (e : k < w1.heap.size) (hn : ¬ k = g) => ((Fr.setCell (w := w1) (F := fun k => k = g) (a := ⟨g, i, none⟩) rfl v).block k e hn).2
  refine ⟨h.dk.keep fun k e => hk k (h.dk.fpLt k e) fun e2 => hf (e2 ▸ e), h.dd, h.cfg, h.arm, h.bel.trans ?_⟩
  exact (Fr.setCell (w := w1) (F := fun k => k = g) (a := ⟨g, i, none⟩) rfl v).below (fun k e => by rw [e]; exact hg) h.bel.size

/-- While names are tried that may not be. -/
structure LimS (w w' : World) (d : Nat) (S : DS) (gN gL : Nat) : Prop where
  lm : Lm w w' d 0 S
  con : S.ps.con = []
  nms : w'.heap[gN]? = some (.cells #[.string { data := #[] }, .string { data := #[65] }, .string { data := #[97, 47, 98] }, .string { data := #[97, 32, 98] }, .string { data := #[128] }, .string nmY] 9 (0, 0)) ∧ ¬ Fp S gN
  long : LgI gL w' 65
  own : ¬ Fp S gL

theorem LimS.cells {w w1 : World} {d : Nat} {S : DS} {gN gL : Nat} (h : LimS w w1 d S gN gL) (i : Nat) (hi : i < 6) : w1.cell? ⟨gN, i, none⟩ = some (.string (badL.getD i .empty)) := by
  rw [cell_of_row _ _ _ _ _ _ h.nms.1]
  match i, hi with
  | 0, _ => rfl
  | 1, _ => rfl
  | 2, _ => rfl
  | 3, _ => rfl
  | 4, _ => rfl
  | 5, _ => rfl
theorem LimS.name {w w1 : World} {d : Nat} {S : DS} {gN gL : Nat} (h : LimS w w1 d S gN gL) {i : Nat} (hi : i < 6) : ∃ nm, w1.cell? ⟨gN, i, none⟩ = some (.string nm) ∧ ¬ okN nm ∧ nm.size ≤ 140737488355328 := by
  refine ⟨_, h.cells i hi, ?_⟩
  have hl : badL.length = 6 := rfl
  have : badL.getD i .empty ∈ badL := by
    rw [List.getD_eq_getElem?_getD, List.getElem?_eq_getElem (by omega)]
    exact List.getElem_mem _
  exact bad_no _ this
theorem LimS.fr {w w1 w2 : World} {d : Nat} {S S' : DS} {gN gL : Nat} (h : LimS w w1 d S gN gL) (hl : Lm w w2 d 0 S') (hp : S'.ps = S.ps) (hf : Fr w1 (Fp S) w2 (Fp S')) : LimS w w2 d S' gN gL := by
  refine ⟨hl, by rw [hp]; exact h.con, keep_fr h.nms hf, ?_, ?_⟩
  · obtain ⟨cur, h1, h2, h3⟩ := h.long
    exact ⟨cur, (keep_fr ⟨h1, h.own⟩ hf).1, h2, h3⟩
  · obtain ⟨cur, h1, h2, h3⟩ := h.long
    exact (keep_fr ⟨h1, h.own⟩ hf).2

section
variable {w w1 : World} {d : Nat} {S : DS} {gN gL : Nat}
theorem LimS.appBad (h : LimS w w1 d S gN gL) {nm : ByteArray} (hb : ¬ okN nm) (hz : nm.size ≤ 140737488355328) :
    Calls Try.prog 16 #[.pointer (some ⟨d, 0, none⟩), .string nm, .slice none 0 0] w1 fun e w2 => e = .returned (.int .i64 101) ∧ ∃ S', LimS w w2 d S' gN gL := by
  refine (h.lm.appBad (by decide) hb hz).mono ?_
  rintro e w2 ⟨rfl, S', k1, k2, k3⟩
  exact ⟨rfl, S', h.fr k1 k2 k3⟩
theorem LimS.synBad (h : LimS w w1 d S gN gL) {nm : ByteArray} (hb : ¬ okN nm) (hz : nm.size ≤ 140737488355328) :
    Calls Try.prog 26 #[.pointer (some ⟨d, 0, none⟩), .string nm] w1 fun e w2 => e = .returned (.int .i64 101) ∧ ∃ S', LimS w w2 d S' gN gL := by
  refine (h.lm.synBad (by decide) hb hz).mono ?_
  rintro e w2 ⟨rfl, S', k1, k2, k3⟩
  exact ⟨rfl, S', h.fr k1 k2 k3⟩
theorem LimS.renBad (h : LimS w w1 d S gN gL) {nm : ByteArray} (hb : ¬ okN nm) (hz : nm.size ≤ 140737488355328) :
    Calls Try.prog 27 #[.pointer (some ⟨d, 0, none⟩), .string nm, .string { data := #[97] }] w1 fun e w2 => e = .returned (.int .i64 101) ∧ ∃ S', LimS w w2 d S' gN gL := by
  refine (h.lm.renBad (tn := { data := #[97] }) (by decide) hb hz (by decide)).mono ?_
  rintro e w2 ⟨rfl, S', k1, k2, k3⟩
  exact ⟨rfl, S', h.fr k1 k2 k3⟩

theorem LimS.first (h : LimS w w1 d S gN gL) : Calls Try.prog 16 #[.pointer (some ⟨d, 0, none⟩), .string nmX, .slice none 0 0] w1 fun e w2 => e = .returned (.int .i64 0) ∧ ∃ S', Lm w w2 d 1 S' ∧ S'.ps.con = Con.app [] nmX [] := by
  refine (h.lm.app (by decide) okX (q := none) (m := 0) (cb := 0) [] rfl (by decide) (.inl (.inl ⟨rfl, rfl⟩)) (fun k e => by simp [Value.ownBlock] at e) (Nat.le_refl _) (fun _ => rfl) (by simp) (.inr (by rw [h.con]; decide)) (by rw [h.con]; decide)).mono ?_
  rintro e w2 ⟨rfl, S', k1, k2, k3⟩
  exact ⟨rfl, S', k1, by rw [k2, h.con]⟩

theorem lit_is {w2 : World} (c : Nat) (hc : c < 256) : IsBy (w2.alloc (.cells #[.int .u8 (c : Int)] 5 (1, 2))) (.slice (some ⟨w2.heap.size, 0, none⟩) 1 1) [c] := .inl (.inr ⟨w2.heap.size, 0, 1, rfl, fun j hj => by
  have : j = 0 := by simpa using hj
  subst this
  rw [Nat.zero_add, cell_of_row _ _ _ _ _ _ (heap_alloc_new w2 _)]
  rfl⟩)

theorem lm_lit {n : Nat} (h : Lm w w1 d n S) (hn : n ≤ 1000) (c : Nat) (hc : c < 256) (hh : S.ps.con.has nmZ ∨ S.ps.con.length < 256) (ht : 1 + Con.tot S.ps.con ≤ 268435456) :
    Calls Try.prog 16 #[.pointer (some ⟨d, 0, none⟩), .string nmZ, .slice (some ⟨w1.heap.size, 0, none⟩) 1 1] (w1.alloc (.cells #[.int .u8 (c : Int)] 5 (1, 2))) fun e w2 => e = .returned (.int .i64 0) ∧ ∃ S', Lm w w2 d (n + 1) S' ∧ S'.ps.con = Con.app S.ps.con nmZ [c] := by
  have hb : Below w1.heap.size w1 (w1.alloc (.cells #[.int .u8 (c : Int)] 5 (1, 2))) := (Below.refl _ _).alloc (Nat.le_refl _) _
  refine ((h.below hb).app (by omega) okZ [c] rfl (by simp) (lit_is c hc) (fun k hk hf => ?_) (Nat.le_refl _) (by simp) (by simpa using hc) hh (by simpa using ht)).mono ?_
  · have e1 : w1.heap.size = k := by simpa [Value.ownBlock] using hk
    have := h.dk.fpLt k hf
    omega
  · rintro e w2 ⟨rfl, S', k1, k2, k3⟩
    exact ⟨rfl, S', k1, k2⟩

def LimA (w w1 : World) (d : Nat) (S : DS) : Prop := Lm w w1 d 1 S ∧ S.ps.con = Con.app [] nmX []
theorem LimA.second (h : LimA w w1 d S) : Calls Try.prog 16 #[.pointer (some ⟨d, 0, none⟩), .string nmZ, .slice (some ⟨w1.heap.size, 0, none⟩) 1 1] (w1.alloc (.cells #[.int .u8 120] 5 (1, 2))) fun e w2 => e = .returned (.int .i64 0) ∧ ∃ S', Lm w w2 d 2 S' ∧ LimC 0 S'.ps.con := by
  have hc : S.ps.con = [(nmX, [], 0)] := by rw [h.2, app_newL (by simp)]; rfl
  refine (lm_lit h.1 (by decide) 120 (by decide) (.inr (by rw [hc]; decide)) (by rw [hc]; decide)).mono ?_
  rintro e w2 ⟨rfl, S', k1, k2⟩
  exact ⟨rfl, S', k1, by rw [k2, h.2]; exact LimC.start⟩

theorem lim_next {i : Nat} (h : Lm w w1 d (i + 2) S) (hc : LimC i S.ps.con) (hi : i < 254) : Calls Try.prog 16 #[.pointer (some ⟨d, 0, none⟩), .string (nameB i), .slice none 0 0] w1 fun e w2 => e = .returned (.int .i64 0) ∧ ∃ S', Lm w w2 d (i + 1 + 2) S' ∧ LimC (i + 1) S'.ps.con := by
  refine (h.app (by omega) (okB i) (q := none) (m := 0) (cb := 0) [] rfl (by decide) (.inl (.inl ⟨rfl, rfl⟩)) (fun k e => by simp [Value.ownBlock] at e) (Nat.le_refl _) (fun _ => rfl) (by simp) (.inr (by rw [hc.len]; omega)) (by have := h.dk.rm; rw [tot_con, h.cfg.2.2.2] at this; have h2 : Con.tot S.ps.con ≤ 268435456 := this.1; simpa using h2)).mono ?_
  rintro e w2 ⟨rfl, S', k1, k2, k3⟩
  exact ⟨rfl, S', k1, by rw [k2]; exact hc.next hi⟩

theorem lim_nd {n : Nat} (h : Lm w w1 d n S) : (S.ps.con.map (·.1)).Nodup := con_nodup h.dk

theorem lim_y (h : Lm w w1 d 256 S) (hc : LimC 254 S.ps.con) : Calls Try.prog 16 #[.pointer (some ⟨d, 0, none⟩), .string nmZ, .slice (some ⟨w1.heap.size, 0, none⟩) 1 1] (w1.alloc (.cells #[.int .u8 121] 5 (1, 2))) fun e w2 => e = .returned (.int .i64 0) ∧ ∃ S', Lm w w2 d 257 S' ∧ ∃ c0, LimC 254 c0 ∧ (c0.map (·.1)).Nodup ∧ S'.ps.con = Con.app c0 nmZ [121] := by
  have ht := tot_one (lim_nd h) hc.has hc.none_
  rw [hc.get] at ht
  refine (lm_lit h (by decide) 121 (by decide) (.inl hc.has) (by rw [ht]; decide)).mono ?_
  rintro e w2 ⟨rfl, S', k1, k2⟩
  exact ⟨rfl, S', k1, S.ps.con, hc, lim_nd h, k2⟩

/-- The files at the end. -/
def LimE (w w1 : World) (d : Nat) (S : DS) : Prop := Lm w w1 d 258 S ∧ LimZ S.ps.con

theorem lim_ren (h : Lm w w1 d 257 S) (hc : ∃ c0, LimC 254 c0 ∧ (c0.map (·.1)).Nodup ∧ S.ps.con = Con.app c0 nmZ [121]) : Calls Try.prog 27 #[.pointer (some ⟨d, 0, none⟩), .string nmZ, .string nmM] w1 fun e w2 => e = .returned (.int .i64 0) ∧ ∃ S', LimE w w2 d S' := by
  obtain ⟨c0, h1, h2, h3⟩ := hc
  have hh : S.ps.con.has nmZ := by
    rw [h3]
    unfold Con.app
    rw [if_pos ((any_has c0 nmZ).2 h1.has)]
    obtain ⟨y, hy, e⟩ := h1.has
    exact ⟨_, List.mem_map.2 ⟨y, hy, rfl⟩, by rw [if_pos e]; exact e⟩
  refine (h.ren (by decide) okZ okM hh).mono ?_
  rintro e w2 ⟨rfl, S', k1, k2, k3⟩
  exact ⟨rfl, S', k1, by rw [k2, h3]; exact h1.last h2⟩

/-- The files as they are told. -/
structure LimF (w w1 : World) (p : Option Addr) (c : Nat) (vals : List Value) (fs : List (ByteArray × List Nat)) : Prop where
  own : w1.ownsRow w.heap.size 45 2 (.slice p 256 c) 256 (fcells fs vals)
  len : vals.length = fs.length ∧ fs.length = 256
  by_ : FilesBy w1 vals fs
  ok : (∀ x ∈ fs, okN x.1) ∧ (fs.map (·.1)).Nodup ∧ totB fs = 2
  u8 : ∀ u ∈ vals, ∀ k, u.ownBlock = some k → ∃ cs, w1.heap[k]? = some (.cells cs 5 (0, 0))
  bel : Below w.heap.size w w1

theorem LimE.files (h : LimE w w1 d S) : Calls Try.prog 13 #[.pointer (some ⟨d, 0, none⟩)] w1 fun e w2 => ∃ (p : Option Addr) (c : Nat), e = .returned (.slice p 256 c) ∧ ∃ vals fs, LimF w w2 p c vals fs := by
  have hd0 := h.1.dd
  subst hd0
  refine (files_any w1 h.1.dk fun x hx => Nat.le_trans (h.2.ok _ (con_mem hx)).2.1 (by unfold maxLen; omega)).mono ?_
  rintro e w2 ⟨p, n, c, rfl, vals, ns, ⟨e1, e2, e3⟩, e4, e5, e6⟩
  have hl : ns.length = 256 := by
    rw [e2.length_eq, List.length_map]
    have h1 : S.ps.con.length = S.L.length := by unfold DS.ps; simp
    rw [← h1, h.2.len]
  have hfl : (filesOf S ns).length = 256 := by unfold filesOf; simpa using hl
  have hn : n = 256 := e1.trans hl
  subst hn
  refine ⟨p, c, rfl, vals, filesOf S ns, ?_, ⟨?_, hfl⟩, files_by e5 h.2.ok e2 e4, ⟨fun x hx => ?_, ?_, ?_⟩, fun u hu k hk => ?_, h.1.bel.trans (e6.below h.1.dk.fpB h.1.bel.size)⟩
  · have := own_low e4.own h.1.bel.size
    rw [hfl] at this
    exact this
  · exact (e4.toR).1.1
  · obtain ⟨n, hn, rfl⟩ := List.mem_map.1 hx
    obtain ⟨y, hy, e⟩ := List.mem_map.1 (e2.subset hn)
    show okN n
    rw [← e]; exact h.2.ok _ (con_mem hy)
  · have : (filesOf S ns).map (·.1) = ns := by unfold filesOf; rw [List.map_map]; exact List.map_id ns
    rw [this]
    exact (e2.nodup_iff).2 e5.nd
  · rw [totB_files e5 e2, h.2.tot]
  · obtain ⟨i, hi⟩ := List.getElem?_of_mem hu
    exact ((e4.row.2 i u hi).2 k hk).2
end

theorem LimF.below {w w1 w2 : World} {p : Option Addr} {c : Nat} {vals : List Value} {fs : List (ByteArray × List Nat)} (h : LimF w w1 p c vals fs) (hb : Below w1.heap.size w1 w2) : LimF w w2 p c vals fs :=
  ⟨ownsRow_keep h.own fun g hg => hb.block g (h.own.lt g hg).2, h.len, h.by_.below hb, h.ok, fun u hu k hk => by obtain ⟨cs, h1⟩ := h.u8 u hu k hk; exact ⟨cs, (hb.block k (heap_lt h1)).trans h1⟩, h.bel.trans (hb.mono h.bel.size)⟩

theorem own_filesR {w1 : World} {B : Nat} {v : Value} {us : List Value} {fs : List (ByteArray × List Nat)} {n : Nat} (hn : fs.length = n) (h : w1.ownsRow B 45 2 v n (fcells fs us)) (hl : us.length = fs.length) : FilesR w1 v us fs := by
  refine ⟨hl, ?_⟩
  rcases h.2 with ⟨e1, e2⟩ | ⟨g, cap, cur, e1, q1, q2, q3, q4, q5, q6⟩
  · exact ⟨none, 0, by rw [e1, hn, e2], fun i hi => by omega⟩
  · refine ⟨_, cap, by rw [hn]; exact e1, fun i hi => ⟨g, 0, rfl, ?_⟩⟩
    obtain ⟨k1, k2⟩ := fcells_at fs us i hl hi
    rw [← q6, List.getElem?_take, if_pos (by omega)] at k1 k2
    rw [cell_of_row _ _ _ _ _ _ q2, cell_of_row _ _ _ _ _ _ q2]
    exact ⟨by simpa using k1, by simpa using k2⟩

theorem LimF.load1 {w w1 : World} {p : Option Addr} {c : Nat} {vals : List Value} {fs : List (ByteArray × List Nat)} (h : LimF w w1 p c vals fs) : Calls Try.prog 19 #[.slice p 256 c, .int .i64 1] w1 fun e w2 => e = .returned (.tuple #[.pointer none, .int .i64 106]) ∧ Below w1.heap.size w1 w2 := by
  refine (load_room w1 _ vals fs (own_filesR h.len.2 h.own h.len.1) (by rw [h.len.2]; decide) h.by_ 1 (by decide) (by decide)).mono ?_
  rintro e w2 (⟨_, h1, h2⟩ | ⟨h0, _⟩)
  · exact ⟨h1, h2⟩
  · have := h0.2.2.2; rw [h.ok.2.2] at this; omega
theorem LimF.load2 {w w1 : World} {p : Option Addr} {c : Nat} {vals : List Value} {fs : List (ByteArray × List Nat)} (h : LimF w w1 p c vals fs) : Calls Try.prog 19 #[.slice p 256 c, .int .i64 2] w1 fun e w2 => ∃ dz : Nat, e = .returned (.tuple #[.pointer (some ⟨dz, 0, none⟩), .int .i64 0]) ∧ Below w1.heap.size w1 w2 := by
  refine (load_room w1 _ vals fs (own_filesR h.len.2 h.own h.len.1) (by rw [h.len.2]; decide) h.by_ 2 (by decide) (by decide)).mono ?_
  rintro e w2 (⟨h0, _⟩ | ⟨_, S, h1, _, _, h2⟩)
  · exact absurd ⟨h.ok.1, h.ok.2.1, by rw [h.len.2]; decide, by rw [h.ok.2.2]; decide⟩ h0
  · exact ⟨S.d, h1, h2⟩

theorem lim_app {w wf w6 : World} {p : Option Addr} {c : Nat} {vals : List Value} {fs : List (ByteArray × List Nat)} {v6 : Value} {X : Obj} (h : LimF w wf p c vals fs)
    (ho : w6.ownsRow w.heap.size 45 2 v6 (256 + 1) (fcells fs vals ++ [.string { data := #[122, 122] }, .slice none 0 0])) (hg : (wf.alloc X).grownBy w6 (Value.slice p 256 c).ownBlock) (hk : w6.ownsRow w.heap.size 45 2 (.slice p 256 c) 256 (fcells fs vals)) :
    Hid (LimF w w6 p c vals fs) ∧ Hid (Below w.heap.size w w6) ∧ Hid (Calls Try.prog 19 #[v6, .int .i64 100] w6 fun e w2 => e = .returned (.tuple #[.pointer none, .int .i64 106]) ∧ Below w6.heap.size w6 w2) := by
  have hsz : wf.heap.size ≤ w6.heap.size := Nat.le_trans (by simp) hg.size
  have hbl : ∀ k, k < wf.heap.size → ¬ (Value.slice p 256 c).ownBlock = some k → w6.heap[k]? = wf.heap[k]? := fun k hk hn => (hg.block k (by simp; omega) fun e => hn e.symm).trans (Below.heap_alloc _ _ _ hk)
  have hb : Below w.heap.size w w6 := ⟨hg.os.trans h.bel.os, hg.tape.trans h.bel.tape, hg.output.trans h.bel.output, Nat.le_trans h.bel.size hsz, fun k hk => (hbl k (Nat.lt_of_lt_of_le hk h.bel.size) fun e => by have := (h.own.lt k e).1; omega).trans (h.bel.block k hk)⟩
  have hu8 : ∀ u ∈ vals, ∀ k, u.ownBlock = some k → (∃ cs, wf.heap[k]? = some (.cells cs 5 (0, 0))) ∧ w6.heap[k]? = wf.heap[k]? := fun u hu k hk => by
    obtain ⟨cs, h1⟩ := h.u8 u hu k hk
    refine ⟨⟨cs, h1⟩, hbl k (heap_lt h1) fun e => ?_⟩
    rcases h.own.2 with ⟨_, e2⟩ | ⟨g, cap, cur, e1, _, e3, _⟩
    · omega
    · rw [e1] at e
      have : g = k := by simpa [Value.ownBlock] using e
      subst this
      rw [h1] at e3
      simp at e3
  have hby : FilesBy w6 vals fs := fun i hi => by
    obtain ⟨h1, p', n', c', e, q1, q2, q3, q4, q5, q6⟩ := h.by_ i hi
    have hl : i < vals.length := by rw [h.len.1]; exact hi
    have hm : vals.getD i (.slice none 0 0) ∈ vals := by
      rw [List.getD_eq_getElem?_getD, List.getElem?_eq_getElem hl]
      exact List.getElem_mem hl
    rw [e] at hm
    exact ⟨h1, p', n', c', e, q1, q2, q3, isBy_keepW q4 fun k hk => (hu8 _ hm k hk).2, q5, q6⟩
  have hf : LimF w w6 p c vals fs := ⟨hk, h.len, hby, h.ok, fun u hu k hk => by obtain ⟨⟨cs, h1⟩, h2⟩ := hu8 u hu k hk; exact ⟨cs, h2.trans h1⟩, hb⟩
  refine ⟨hf, hb, ?_⟩
  have hfc : fcells fs vals ++ [.string { data := #[122, 122] }, .slice none 0 0] = fcells (fs ++ [({ data := #[122, 122] }, [])]) (vals ++ [.slice none 0 0]) := (fcells_more fs vals ({ data := #[122, 122] }, []) (.slice none 0 0) h.len.1).symm
  rw [hfc] at ho
  have hl : (fs ++ [(({ data := #[122, 122] } : ByteArray), ([] : List Nat))]).length = 256 + 1 := by rw [List.length_append, h.len.2]; rfl
  refine (load_room w6 v6 _ _ (own_filesR hl ho (by simp [h.len.1])) (by rw [hl]; decide) (hby.more h.len.1 (by decide)) 100 (by decide) (by decide)).mono ?_
  rintro e w2 (⟨_, h1, h2⟩ | ⟨h0, _⟩)
  · exact ⟨h1, h2⟩
  · have := h0.2.2.1; rw [hl] at this; omega

set_option maxRecDepth 100000 in
set_option maxHeartbeats 16000000 in
theorem diskLimits_any (w : World) : Calls Try.prog 5 #[] w fun e w' => e = .returned (.bool true) ∧ Below w.heap.size w w' := by
  go_enter Try.func5, Try.ntmps5
  go_upto_block 0 with fail
  obtain ⟨w1, hw1⟩ : ∃ w1, w.alloc (.cells #[.int .i64 (-9223372036854775808), .int .i64 (-1), .int .i64 (0), .int .i64 (268435457), .int .i64 (9223372036854775807)] 3) = w1 := ⟨_, rfl⟩
  have HR : Hid (w1.heap[w.heap.size]? = some (.cells #[.int .i64 (-9223372036854775808), .int .i64 (-1), .int .i64 (0), .int .i64 (268435457), .int .i64 (9223372036854775807)] 3 (0, 0))) := by rw [← hw1]; exact heap_alloc_new _ _
  have HB1 : Hid (Below w.heap.size w w1) := by rw [← hw1]; exact (Below.refl _ _).alloc (Nat.le_refl _) _
  rw [hw1]
  clear hw1
  go_wp2_with fail
  go_loopw [2] (fun t2 wr => ∃ i : Nat, t2 = .int .i64 (i : Int) ∧ i ≤ 5 ∧ wr = w1) (fun t2 _ => 5 - (intOf t2).toNat)
  case atStart => exact ⟨0, rfl, by decide, by first | rfl | trivial⟩
  case round =>
    obtain ⟨i, rfl, hi, rfl⟩ := hrel
    by_cases hlt : i < 5
    · have hlt' : (i : Int) < 5 := by omega
      obtain ⟨z, hz, hzb⟩ := room_at HR.out i hlt
      have HN := hide (new_bad wr z hzb)
      have HL := hide (load_bad wr (.slice none 0 0) z hzb)
      clear hzb
      go_wp2_with (first
        | (go_at_call 8; refine (num10_any _ _).mono ?_; rintro e wn ⟨rfl, hwn⟩; have hwn2 := hwn.symm; subst hwn2)
        | (go_at_call 7; refine HN.out.mono ?_; rintro e w2 ⟨rfl, hw2⟩; have hw3 := hw2.symm; subst hw3; clear HN)
        | (go_at_call 19; refine HL.out.mono ?_; rintro e w2 ⟨rfl, hw2⟩; have hw3 := hw2.symm; subst hw3; clear HL))
      go_roundw
      case rel => exact ⟨i + 1, by simp, by omega, by first | rfl | trivial⟩
      case measure => simp [intOf]; omega
    · have hlt' : ¬ (i : Int) < 5 := by omega
      have h5 : i = 5 := by omega
      subst h5
      clear hi hlt
      have HNW := hide (lm_new (w := w) HB1.out)
      have hmk : ∀ W : World, (Instr.makeSlice 34 (.int .i64 65) (.int .i64 65)).run Try.prog W = .ok (.slice (some ⟨W.heap.size, 0, none⟩) 65 65) (W.alloc (.cells (List.replicate 65 (Value.int .u8 0)).toArray 5)) := fun W => make_bytes 65 (by decide) W
      go_upto_region 12 with (first
        | (go_at_call 8; refine (num10_any _ _).mono ?_; rintro e wn ⟨rfl, hwn⟩; have hwn2 := hwn.symm; subst hwn2)
        | (go_at_call 7; refine HNW.out.mono ?_; rintro e w2 ⟨S, rfl, hS, hc, hbn⟩; obtain ⟨d, hd⟩ : ∃ d, S.d = d := ⟨_, rfl⟩; rw [hd] at hS ⊢; have H2 := hide hS; have HC := hide hc; have HRM := hide hS.rooms; clear hd hS hc hbn HNW)
        | (go_at_call 22; refine HRM.out.mono ?_; rintro e w3 ⟨rfl, h3⟩; have H3 := hide h3; clear h3 HRM H2)
        | (go_at_call 9; refine (works10_any _).mono ?_; rintro e w4 ⟨rfl, hB4⟩; have H4 := hide (H3.out.below hB4); clear hB4 H3))
      obtain ⟨X, hX⟩ : ∃ X : Obj, X = .cells (List.replicate 65 (Value.int .u8 0)).toArray 5 := ⟨_, rfl⟩
      rw [← hX] at hmk
      have HXX : Hid (X = .cells (List.replicate 65 (Value.int .u8 0)).toArray 5) := hX
      clear hX
      go_upto_block 0 with (simp only [hmk])
      obtain ⟨w5, hw5⟩ : ∃ w5, w4.alloc X = w5 := ⟨_, rfl⟩
      have HB5 : Hid (Below w4.heap.size w4 w5) := by rw [← hw5]; exact (Below.refl _ _).alloc (Nat.le_refl _) _
      have HLG : Hid (LgI w4.heap.size w5 0 ∧ ¬ Fp S w4.heap.size) := ⟨⟨_, by rw [← hw5, HXX.out]; exact heap_alloc_new _ _, by simp, fun j hj => by omega⟩, fun hf => by have := H4.out.dk.fpLt _ hf; omega⟩
      have H5 := hide (H4.out.below HB5.out)
      rw [hw5]
      have HGE : Hid (w.heap.size ≤ w4.heap.size) := H4.out.bel.size
      obtain ⟨gL, hgL⟩ : ∃ gL, w4.heap.size = gL := ⟨_, rfl⟩
      rw [hgL] at HLG HGE ⊢
      clear hw5 HB5 hgL HXX hmk H4
      go_wp2_with fail
      go_loopw [10] (fun t10 wr => ∃ k : Nat, t10 = .int .i64 (k : Int) ∧ k ≤ 65 ∧ Hid (Lm w wr d 0 S ∧ LgI gL wr k)) (fun t10 _ => 65 - (intOf t10).toNat)
      case atStart => exact ⟨0, rfl, by decide, H5.out, HLG.out.1⟩
      case round =>
        clear H5
        obtain ⟨k, rfl, hk, HI⟩ := hrel
        by_cases hlt : k < 65
        · have hlt' : (k : Int) < 65 := by omega
          obtain ⟨u, hu⟩ := HI.out.2.cell k hlt
          have hfz := HI.out.2.frozen k
          have HN : Hid (Lm w (wr.setCell ⟨gL, k, none⟩ (.int .u8 120)) d 0 S ∧ LgI gL (wr.setCell ⟨gL, k, none⟩ (.int .u8 120)) (k + 1)) := ⟨HI.out.1.setOwn HGE.out HLG.out.2 _ _, HI.out.2.set hlt⟩
          go_wp2_with fail
          go_roundw
          case rel => exact ⟨k + 1, by simp, by omega, HN.out⟩
          case measure => simp [intOf]; omega
        · have hlt' : ¬ (k : Int) < 65 := by omega
          have h65 : k = 65 := by omega
          subst h65
          clear hk hlt
          have HIB := hide HI.out.2.is
          have hcs : (convert 34 9 (.slice (some ⟨gL, 0, none⟩) 65 65)).run Try.prog wr = .ok (.string nmY) wr := convert_by _ _ _ HIB.out.1
          go_upto_block 0 with (simp only [hcs])
          obtain ⟨w6, hw6⟩ : ∃ w6, wr.alloc (.cells #[.string { data := #[] }, .string { data := #[65] }, .string { data := #[97, 47, 98] }, .string { data := #[97, 32, 98] }, .string { data := #[128] }, .string nmY] 9) = w6 := ⟨_, rfl⟩
          have HB6 : Hid (Below wr.heap.size wr w6) := by rw [← hw6]; exact (Below.refl _ _).alloc (Nat.le_refl _) _
          have HNM : Hid (w6.heap[wr.heap.size]? = some (.cells #[.string { data := #[] }, .string { data := #[65] }, .string { data := #[97, 47, 98] }, .string { data := #[97, 32, 98] }, .string { data := #[128] }, .string nmY] 9 (0, 0)) ∧ ¬ Fp S wr.heap.size) := ⟨by rw [← hw6]; exact heap_alloc_new _ _, fun hf => by have := HI.out.1.dk.fpLt _ hf; omega⟩
          have H6 := hide (HI.out.1.below HB6.out)
          have HLG6 : Hid (LgI gL w6 65) := HI.out.2.below HB6.out
          rw [hw6]
          obtain ⟨gN, hgN⟩ : ∃ gN, wr.heap.size = gN := ⟨_, rfl⟩
          rw [hgN] at HNM ⊢
          clear hw6 HB6 hgN hcs HIB HI
          go_wp2_with fail
          go_loopw [12] (fun t12 wr => ∃ i : Nat, t12 = .int .i64 (i : Int) ∧ i ≤ 6 ∧ Hid (∃ S, LimS w wr d S gN gL)) (fun t12 _ => 6 - (intOf t12).toNat)
          case atStart => exact ⟨0, rfl, by decide, S, H6.out, HC.out, HNM.out, HLG6.out, HLG.out.2⟩
          case round =>
            clear HNM H6 HLG6 HLG HC
            obtain ⟨i, rfl, hi, HI⟩ := hrel
            obtain ⟨S, HS⟩ := HI.out
            have HI := hide HS
            clear HS
            by_cases hlt : i < 6
            · have hlt' : (i : Int) < 6 := by omega
              obtain ⟨nm, hc, hb, hz⟩ := HI.out.name hlt
              have HBZ := hide (And.intro hb hz)
              have HA := hide (HI.out.appBad hb hz)
              clear hb hz
              go_upto_region 20 with (first
                | (go_at_call 8; refine (num10_any _ _).mono ?_; rintro e wn ⟨rfl, hwn⟩; have hwn2 := hwn.symm; subst hwn2)
                | (go_at_call 16; refine HA.out.mono ?_; rintro e wa ⟨rfl, Sa, ha⟩; have HAa := hide ha; have hca := (ha.cells i hlt).trans (HI.out.cells i hlt).symm; rw [hc] at hca; have HSY := hide (ha.synBad HBZ.out.1 HBZ.out.2); clear ha HA)
                | (go_at_call 26; refine HSY.out.mono ?_; rintro e wb ⟨rfl, Sb, hb⟩; have HAb := hide hb; have hcb := (hb.cells i hlt).trans (HAa.out.cells i hlt).symm; rw [hca] at hcb; have HRN := hide (hb.renBad HBZ.out.1 HBZ.out.2); clear hb HSY)
                | (go_at_call 27; refine HRN.out.mono ?_; rintro e wc ⟨rfl, Sc, hcc⟩; have HAc := hide hcc; clear hcc HRN))
              go_wp2_with fail
              go_roundw
              case rel => exact ⟨i + 1, by simp, by omega, Sc, HAc.out⟩
              case measure => simp [intOf]; omega
            · have hlt' : ¬ (i : Int) < 6 := by omega
              have h6 : i = 6 := by omega
              subst h6
              clear hi hlt
              have HIB := hide HI.out.long.is
              have hcs : (convert 34 9 (.slice (some ⟨gL, 0, none⟩) 64 65)).run Try.prog wr = .ok (.string nmX) wr := convert_by _ _ _ HIB.out.2
              have HX := hide (HI.out.first)
              go_upto_block 0 with (first
                | (go_at_call 8; refine (num10_any _ _).mono ?_; rintro e wn ⟨rfl, hwn⟩; have hwn2 := hwn.symm; subst hwn2)
                | (simp only [hcs])
                | (simp only [hcv])
                | (refine wpList_flatOn 34 5 1 _ rfl (by rfl) .u8 [120] _ rfl Try.underlying34 (by kernel_rfl) (by kernel_rfl) rfl (by decide) (by decide) rfl ?_)
                | (go_at_call 16; refine HX.out.mono ?_; rintro e wa ⟨rfl, Sa, ha⟩; have HZ := hide (LimA.second ha); clear HX ha; have hcv := Go.Joins.run_convert_bytes_const_at (P := Try.prog) wa 34 5 #[.int .u8 120] 1 1 wa.heap.size rfl Try.underlying34 (by kernel_rfl); rw [show (Array.size (α := Value) #[.int .u8 120]) = 1 from rfl] at hcv)
                | (go_at_call 16; refine HZ.out.mono ?_; rintro e wb ⟨rfl, Sb, hb⟩; have HB := hide hb; clear HZ hb hcv))
              go_wp2_with fail
              go_loopw [13] (fun t13 wr => ∃ i : Nat, t13 = .int .i64 (i : Int) ∧ i ≤ 254 ∧ Hid (∃ S, Lm w wr d (i + 2) S ∧ LimC i S.ps.con)) (fun t13 _ => 254 - (intOf t13).toNat)
              case atStart => exact ⟨0, rfl, by decide, Sb, HB.out⟩
              case round =>
                clear HB
                obtain ⟨i, rfl, hi, HI⟩ := hrel
                obtain ⟨S, HS⟩ := HI.out
                have HI := hide HS
                clear HS
                by_cases hlt : i < 254
                · have hlt' : (i : Int) < 254 := by omega
                  have HN := hide (name_any i hlt wr)
                  go_wp2_with (first
                    | (go_at_call 8; refine (num10_any _ _).mono ?_; rintro e wn ⟨rfl, hwn⟩; have hwn2 := hwn.symm; subst hwn2)
                    | (go_at_call 28; refine HN.out.mono ?_; rintro e wa ⟨rfl, ha⟩; have HA := hide (lim_next (HI.out.1.below ha) HI.out.2 hlt); clear HN ha)
                    | (go_at_call 16; refine HA.out.mono ?_; rintro e wb ⟨rfl, Sb, hb⟩; have HB := hide hb; clear hb HA))
                  go_roundw
                  case rel => exact ⟨i + 1, by simp, by omega, Sb, HB.out⟩
                  case measure => simp [intOf]; omega
                · have hlt' : ¬ (i : Int) < 254 := by omega
                  have h254 : i = 254 := by omega
                  subst h254
                  clear hi hlt
                  have HFU := hide (HI.out.1.appFull (by decide) okM HI.out.2.more HI.out.2.len)
                  go_upto_region 32 with (first
                    | (go_at_call 8; refine (num10_any _ _).mono ?_; rintro e wn ⟨rfl, hwn⟩; have hwn2 := hwn.symm; subst hwn2)
                    | (simp only [hcv])
                    | (refine wpList_flatOn 34 5 1 _ rfl (by rfl) .u8 [121] _ rfl Try.underlying34 (by kernel_rfl) (by kernel_rfl) rfl (by decide) (by decide) rfl ?_)
                    | (go_at_call 16; refine HFU.out.mono ?_; rintro e wa ⟨rfl, Sa, ha, hp, -⟩; have HY := hide (lim_y ha (by rw [hp]; exact HI.out.2)); clear HFU ha hp; have hcv := Go.Joins.run_convert_bytes_const_at (P := Try.prog) wa 34 5 #[.int .u8 121] 1 1 wa.heap.size rfl Try.underlying34 (by kernel_rfl); rw [show (Array.size (α := Value) #[.int .u8 121]) = 1 from rfl] at hcv)
                    | (go_at_call 16; refine HY.out.mono ?_; rintro e wb ⟨rfl, Sb, hb, hcn⟩; have HRN := hide (lim_ren hb hcn); clear HY hb hcn hcv)
                    | (go_at_call 27; refine HRN.out.mono ?_; rintro e wc ⟨rfl, Sc, hc⟩; have HE := hide hc; clear HRN hc))
                  have HFL := hide (LimE.files HE.out)
                  have HBE := hide HE.out.1.bel
                  obtain ⟨iF, hiF⟩ := infoFile
                  have Hi := hide hiF
                  clear hiF
                  go_upto_region 33 with (go_at_call 13; refine HFL.out.mono ?_; rintro e wf ⟨pf, cf, rfl, vals, fs, hq⟩; have HQ := hide hq; clear hq HFL)
                  go_wp2_with (first
                    | (go_at_call 8; refine (num10_any _ _).mono ?_; rintro e wn ⟨rfl, hwn⟩; have hwn2 := hwn.symm; subst hwn2)
                    | (at_builtin; refine wpList_append_old rfl _ _ _ rfl w.heap.size 45 iF (.agg #[.string ByteArray.empty, .slice none 0 0]) 2 40 Try.underlying33 Hi.out.1 Hi.out.2.1 Hi.out.2.2.1 Hi.out.2.2.2 rfl (by decide) (.slice pf 256 cf) 256 (fcells fs vals) rfl ?f0 ⟨wf.heap.size, 0, none⟩ 1 1 [.string { data := #[122, 122] }, .slice none 0 0] rfl rfl (World.news_of_block (heap_alloc_new wf _)) ?f1 ?f4 ?f5 ?f7 ?f6)
                    | (go_at_call 19; refine HL1.out.mono ?_; rintro e wa ⟨rfl, ha⟩; have HA := hide (HQ6.out.below ha); have HBA := hide (HB6.out.trans (ha.mono HB6.out.size)); have HL2 := hide HA.out.load1; clear ha HL1 HQ6 HB6)
                    | (go_at_call 19; refine HL2.out.mono ?_; rintro e wb ⟨rfl, hb⟩; have HB := hide (HA.out.below hb); have HBB := hide (HBA.out.trans (hb.mono HBA.out.size)); have HL3 := hide HB.out.load2; clear hb HL2 HA HBA)
                    | (go_at_call 19; refine HL3.out.mono ?_; rintro e wc' ⟨dz, rfl, hc⟩; have HBC := hide (HBB.out.trans (hc.mono HBB.out.size)); clear hc HL3 HB HBB))
                  case f0 => exact (HQ.out.own).alloc _
                  case f1 => first | exact ⟨rfl, rfl⟩ | (intro u hu; rcases List.mem_cons.1 hu with rfl | hu; rfl; rw [List.mem_singleton.1 hu]; rfl)
                  case f4 => unfold maxLen; omega
                  case f5 => omega
                  case f7 => have := HQ.out.bel.size; simp; omega
                  case f6 =>
                    intro v6 w6 ho6 hg6 hk6
                    have hv6 : ∃ p c, v6 = .slice p 257 c := by
                      rcases ho6.2 with ⟨_, e2⟩ | ⟨g', cap, cur, e1, _⟩
                      · omega
                      · exact ⟨_, _, e1⟩
                    obtain ⟨HQ6, HB6, HL1⟩ := lim_app HQ.out ho6 hg6 hk6
                    obtain ⟨p6, c6, hv6⟩ := hv6
                    subst hv6
                    clear ho6 hg6 hk6 HQ
                    go_wp2_with (first
                      | (go_at_call 8; refine (num10_any _ _).mono ?_; rintro e wn ⟨rfl, hwn⟩; have hwn2 := hwn.symm; subst hwn2)
                      | (go_at_call 19; refine HL1.out.mono ?_; rintro e wa ⟨rfl, ha⟩; have HA := hide (HQ6.out.below ha); have HBA := hide (HB6.out.trans (ha.mono HB6.out.size)); have HL2 := hide HA.out.load1; clear ha HL1 HQ6 HB6)
                      | (go_at_call 19; refine HL2.out.mono ?_; rintro e wb ⟨rfl, hb⟩; have HB := hide (HA.out.below hb); have HBB := hide (HBA.out.trans (hb.mono HBA.out.size)); have HL3 := hide HB.out.load2; clear hb HL2 HA HBA)
                      | (go_at_call 19; refine HL3.out.mono ?_; rintro e wc' ⟨dz, rfl, hc⟩; have HBC := hide (HBB.out.trans (hc.mono HBB.out.size)); clear hc HL3 HB HBB))
                    go_ret
                    exact ⟨rfl, HBC.out⟩

end Go.Proofs.Ytiblnkiecpcdpaa

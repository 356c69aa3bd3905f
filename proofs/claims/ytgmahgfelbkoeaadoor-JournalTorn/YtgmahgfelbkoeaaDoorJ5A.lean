/- A log on a disk that holds more files: what a call of it leaves; four logs on three disks. -/
import Derived.Test.YtgmahgfelbkoeaaDoorJ4F
namespace Go.Proofs.YtgmahgfelbkoeaaDoor
open Go.RowKit
set_option linter.unusedVariables false
set_option linter.unusedSimpArgs false

theorem con_upd_mem {c : Con} {nm : ByteArray} {y : ByteArray × List Nat × Nat} (hy : y ∈ c) (hn : y.1 ≠ nm) (g : List Nat × Nat → List Nat × Nat) : y ∈ Con.upd c nm g := List.mem_map.2 ⟨y, hy, if_neg hn⟩
theorem con_upd_at {c : Con} {nm : ByteArray} {a : List Nat} {su : Nat} (h : (nm, a, su) ∈ c) (g : List Nat × Nat → List Nat × Nat) : (nm, g (a, su)) ∈ Con.upd c nm g := List.mem_map.2 ⟨_, h, if_pos rfl⟩
theorem con_app_of {c : Con} {nm : ByteArray} (h : c.has nm) (bs : List Nat) : Con.app c nm bs = Con.upd c nm fun q => (q.1 ++ bs, q.2) := by
  obtain ⟨y, hy, e⟩ := h
  unfold Con.app
  rw [if_pos (List.any_eq_true.2 ⟨y, hy, by simp [e]⟩)]
theorem con_upd_names (c : Con) (nm : ByteArray) (g : List Nat × Nat → List Nat × Nat) : (Con.upd c nm g).map (·.1) = c.map (·.1) := by
  unfold Con.upd
  rw [List.map_map]
  apply List.map_congr_left
  intro y _
  by_cases e : y.1 = nm
  · simp [e]
  · simp [e]
theorem con_upd_none {c : Con} {nm : ByteArray} (h : ∀ y ∈ c, y.1 ≠ nm) (g : List Nat × Nat → List Nat × Nat) : Con.upd c nm g = c := by
  unfold Con.upd
  conv => rhs; rw [← List.map_id c]
  apply List.map_congr_left
  intro y hy
  rw [if_neg (h y hy)]; rfl
theorem con_tot_upd {nm : ByteArray} {g : List Nat × Nat → List Nat × Nat} (k : Nat) (hg : ∀ q, (g q).1.length ≤ q.1.length + k) : ∀ (c : Con), (c.map (·.1)).Nodup → Con.tot (Con.upd c nm g) ≤ Con.tot c + k
  | [], _ => by simp [Con.upd, Con.tot]
  | x :: l, h => by
    simp only [List.map_cons, List.nodup_cons] at h
    by_cases e : x.1 = nm
    · have hl : Con.upd l nm g = l := con_upd_none (fun y hy e2 => h.1 (List.mem_map.2 ⟨y, hy, e2.trans e.symm⟩)) g
      have hx : Con.upd (x :: l) nm g = (x.1, g x.2) :: Con.upd l nm g := by simp [Con.upd, e]
      rw [hx, hl]
      have := hg x.2
      simp only [Con.tot]
      omega
    · have hx : Con.upd (x :: l) nm g = x :: Con.upd l nm g := by simp [Con.upd, e]
      rw [hx]
      have := con_tot_upd (nm := nm) k hg l h.2
      simp only [Con.tot]
      omega
theorem con_tot_mem {x : ByteArray × List Nat × Nat} : ∀ {c : Con}, x ∈ c → x.2.1.length ≤ Con.tot c
  | y :: l, h => by
    simp only [Con.tot]
    rcases List.mem_cons.1 h with rfl | h
    · omega
    · have := con_tot_mem h; omega

theorem con_lay_at {c : Con} {nm : ByteArray} {a : List Nat} {su : Nat} (h : (nm, a, su) ∈ c) (bs : List Nat) : (nm, a ++ bs, (a ++ bs).length) ∈ Con.lay c nm bs := by
  unfold Con.lay
  rw [con_app_of ⟨_, h, rfl⟩]
  exact con_upd_at (con_upd_at h _) _
theorem con_lay_mem {c : Con} {nm : ByteArray} {y : ByteArray × List Nat × Nat} (hy : y ∈ c) (hn : y.1 ≠ nm) (bs : List Nat) : y ∈ Con.lay c nm bs := by
  unfold Con.lay
  refine con_upd_mem ?_ hn _
  unfold Con.app
  split
  · exact con_upd_mem hy hn _
  · exact List.mem_append_left _ hy
theorem con_lay_tot {c : Con} {nm : ByteArray} (h : c.has nm) (hd : (c.map (·.1)).Nodup) (bs : List Nat) : Con.tot (Con.lay c nm bs) ≤ Con.tot c + bs.length := by
  unfold Con.lay
  rw [con_app_of h]
  have h1 := con_tot_upd (nm := nm) (g := fun q => (q.1, q.1.length)) 0 (fun q => by simp) (Con.upd c nm fun q => (q.1 ++ bs, q.2)) (by rw [con_upd_names]; exact hd)
  have h2 := con_tot_upd (nm := nm) (g := fun q => (q.1 ++ bs, q.2)) bs.length (fun q => by simp) c hd
  omega

/-- A log on a disk: its file holds just these bytes, all sure, and the log says so. -/
structure One (W w : World) (d l : Nat) (p : PS) (F : Nat → Prop) (nm : ByteArray) (bs : List Nat) (ct : Nat) : Prop where
  di : Di W.heap.size w d p F
  mem : (nm, bs, bs.length) ∈ p.con
  h8 : 8 ≤ bs.length
  pre : bs.take 8 = headB
  room : p.room = 268435456
  off : p.off = false
  ain : p.ain = 0
  lg : Lg w l d nm bs.length ct
  nl : ¬ F l
  lge : W.heap.size ≤ l
  bel : Below W.heap.size W w

theorem One.below {W w w' : World} {d l : Nat} {p : PS} {F : Nat → Prop} {nm : ByteArray} {bs : List Nat} {ct : Nat} (h : One W w d l p F nm bs ct) (hb : Below w.heap.size w w') : One W w' d l p F nm bs ct :=
  { h with di := h.di.below hb, lg := h.lg.below hb, bel := h.bel.trans (hb.mono h.bel.size) }

/-- What a call of a log leaves. -/
structure Stp (W w w' : World) (d l : Nat) (p : PS) (F : Nat → Prop) (p' : PS) (F' : Nat → Prop) (nm : ByteArray) (bs : List Nat) (ct dt dw : Nat) : Prop where
  one : One W w' d l p' F' nm bs ct
  wr : p'.wr ≤ p.wr + dw
  tot : Con.tot p'.con ≤ Con.tot p.con + dt
  oth : ∀ y ∈ p.con, y.1 ≠ nm → y ∈ p'.con
  fx : Fx l w F w' F'

theorem Stp.refl {W w : World} {d l : Nat} {p : PS} {F : Nat → Prop} {nm : ByteArray} {bs : List Nat} {ct : Nat} (h : One W w d l p F nm bs ct) : Stp W w w d l p F p F nm bs ct 0 0 :=
  ⟨h, by omega, by omega, fun y hy _ => hy, (Fr.of_below (Below.refl _ _)).fx⟩
theorem Stp.trans {W w w1 w2 : World} {d l : Nat} {p p1 p2 : PS} {F F1 F2 : Nat → Prop} {nm : ByteArray} {bs bs2 : List Nat} {ct ct2 t1 v1 t2 v2 : Nat} (h : Stp W w w1 d l p F p1 F1 nm bs ct t1 v1) (k : Stp W w1 w2 d l p1 F1 p2 F2 nm bs2 ct2 t2 v2) : Stp W w w2 d l p F p2 F2 nm bs2 ct2 (t1 + t2) (v1 + v2) :=
  ⟨k.one, by have := h.wr; have := k.wr; omega, by have := h.tot; have := k.tot; omega, fun y hy hn => k.oth y (h.oth y hy hn) hn, h.fx.trans k.fx⟩
theorem Stp.below {W w w1 w2 : World} {d l : Nat} {p p1 : PS} {F F1 : Nat → Prop} {nm : ByteArray} {bs : List Nat} {ct t1 v1 : Nat} (h : Stp W w w1 d l p F p1 F1 nm bs ct t1 v1) (hb : Below w1.heap.size w1 w2) : Stp W w w2 d l p F p1 F1 nm bs ct t1 v1 :=
  { h with one := h.one.below hb, fx := h.fx.trans (Fr.of_below hb).fx }
theorem Stp.after {W w0 w w1 : World} {d l : Nat} {p p1 : PS} {F F1 : Nat → Prop} {nm : ByteArray} {bs : List Nat} {ct t1 v1 : Nat} (h : Stp W w w1 d l p F p1 F1 nm bs ct t1 v1) (hb : Below w0.heap.size w0 w) : Stp W w0 w1 d l p F p1 F1 nm bs ct t1 v1 :=
  { h with fx := (Fr.of_below hb).fx.trans h.fx }
theorem Stp.more {W w w1 : World} {d l : Nat} {p p1 : PS} {F F1 : Nat → Prop} {nm : ByteArray} {bs : List Nat} {ct t1 v1 t2 v2 : Nat} (h : Stp W w w1 d l p F p1 F1 nm bs ct t1 v1) (ht : t1 ≤ t2) (hv : v1 ≤ v2) : Stp W w w1 d l p F p1 F1 nm bs ct t2 v2 :=
  { h with wr := by have := h.wr; omega, tot := by have := h.tot; omega }

section
variable {W w : World} {d l : Nat} {p : PS} {F : Nat → Prop} {nm : ByteArray} {bs : List Nat} {ct : Nat}

theorem one_append (h : One W w d l p F nm bs ct) (hs : okN nm) (hT : TabC W) (pr : Option Addr) (m cap : Nat) (rs : List (List Nat)) (hr : RowA w (.slice pr m cap) rs) (hb : ∀ r ∈ rs, ∀ x ∈ r, x < 256) (hok : Okr rs) (hA : Con.tot p.con + (recB rs).length ≤ 268435456) (hw : p.wr ≤ 100000) (hf : ct ≤ 100000) :
    Calls Tryd.prog 11 #[.pointer (some ⟨l, 0, none⟩), .slice pr m cap] w fun e w' => e = .returned (.int .i64 0) ∧ ∃ p' F', Stp W w w' d l p F p' F' nm (bs ++ recB rs) (ct + 1) (recB rs).length 2 := by
  obtain ⟨hm, hp⟩ := hr.parts
  subst hm
  obtain ⟨e1, e2⟩ := recP_rs rs
  have hbl := con_tot_mem h.mem
  dsimp only at hbl
  refine (lappend_ok w h.di h.lg h.nl h.off h.ain (by omega) hs ⟨_, h.mem, rfl⟩ pr rs.length cap _ hp (fun i hi n hn => ?_) hok.1 (by rw [e2]; exact hok.2) (by rw [e1, h.room]; exact hA) (by omega) (by omega) (hT.below h.bel)).mono ?_
  · have hm : rs.getD i [] ∈ rs := by rw [List.getD_eq_getElem?_getD, List.getElem?_eq_getElem hi]; exact List.getElem_mem hi
    exact hb _ hm n hn
  · rintro e w' ⟨rfl, F', k1, k2, k3, k4⟩
    rw [e1] at k1 k2
    rw [← List.length_append] at k2
    have h8 := h.h8
    refine ⟨rfl, _, F', ⟨k1, con_lay_at h.mem _, by rw [List.length_append]; omega, by rw [List.take_append_of_le_length h.h8]; exact h.pre, h.room, h.off, h.ain, k2, k3, h.lge, bel_fx h.bel (Nat.le_refl _) k4 h.di.ge h.lge⟩, ?_, con_lay_tot ⟨_, h.mem, rfl⟩ h.di.rm.2.2 _, fun y hy hn => con_lay_mem hy hn _, k4⟩
    exact Nat.le_refl _

theorem one_clear (h : One W w d l p F nm bs ct) (hs : okN nm) (hw : p.wr ≤ 100000) :
    Calls Tryd.prog 13 #[.pointer (some ⟨l, 0, none⟩)] w fun e w' => e = .returned (.int .i64 0) ∧ ∃ p' F', Stp W w w' d l p F p' F' nm headB 0 0 1 := by
  refine (lclear_ok w h.di h.lg h.nl h.off h.ain (by omega) hs bs bs.length h.mem h.h8).mono ?_
  rintro e w' ⟨rfl, F', k1, k2, k3, k4⟩
  have h8 := h.h8
  have hm := con_upd_at h.mem (fun q => (q.1.take 8, min q.2 8))
  dsimp only at hm
  rw [h.pre, show min bs.length 8 = headB.length from by show min bs.length 8 = 8; omega] at hm
  refine ⟨rfl, _, F', ⟨k1, hm, by decide, by decide, h.room, h.off, h.ain, k2, k3, h.lge, bel_fx h.bel (Nat.le_refl _) k4 h.di.ge h.lge⟩, Nat.le_refl _, con_tot_upd (nm := nm) (g := fun q => (q.1.take 8, min q.2 8)) 0 (fun q => by simp; omega) p.con h.di.rm.2.2, fun y hy hn => con_upd_mem hy hn (fun q => (q.1.take 8, min q.2 8)), k4⟩
end

/-- A function changed at one place. -/
def put {α : Type} (f : Nat → α) (t : Nat) (v : α) : Nat → α := fun s => if s = t then v else f s
theorem put_at {α : Type} (f : Nat → α) (t : Nat) (v : α) : put f t v t = v := if_pos rfl
theorem put_ne {α : Type} (f : Nat → α) {s t : Nat} (h : s ≠ t) (v : α) : put f t v s = f s := if_neg h

def nmK : ByteArray := { data := #[107] }
theorem okK : okN nmK := ⟨by decide, by decide, fun i h => by
  have : i = 0 := by have : nmK.size = 1 := rfl; omega
  subst this
  show 0 ≤ firstIdx letters 107
  decide +kernel⟩

/-- Of the four logs: on which disk each lies, and its file's name. -/
def dk (t : Nat) : Nat := if t < 2 then 0 else t - 1
def nf (t : Nat) : ByteArray := if t % 2 = 0 then nmJ else nmK
theorem nf_ok (t : Nat) : okN (nf t) := by
  unfold nf; split
  · exact okJ
  · exact okK
theorem dk_lt {t : Nat} (h : t < 4) : dk t < 3 := by unfold dk; split <;> omega
theorem nf_ne {s t : Nat} (hs : s < 4) (ht : t < 4) (h : s ≠ t) (e : dk s = dk t) : nf s ≠ nf t := by
  have hjk : nmJ ≠ nmK := by decide
  have h1 : (s = 0 ∧ t = 1) ∨ (s = 1 ∧ t = 0) := by unfold dk at e; split at e <;> split at e <;> omega
  rcases h1 with ⟨rfl, rfl⟩ | ⟨rfl, rfl⟩
  · exact hjk
  · exact hjk.symm

/-- Logs on three disks: the first N of four. -/
structure Ap (W w : World) (N : Nat) (D Lb : Nat → Nat) (P : Nat → PS) (Fs : Nat → Nat → Prop) (bf : Nat → List Nat) (cf : Nat → Nat) : Prop where
  n4 : N ≤ 4
  di : ∀ a, a < 3 → Di W.heap.size w (D a) (P a) (Fs a)
  ps : ∀ a, a < 3 → (P a).room = 268435456 ∧ (P a).off = false ∧ (P a).ain = 0
  one : ∀ t, t < N → One W w (D (dk t)) (Lb t) (P (dk t)) (Fs (dk t)) (nf t) (bf t) (cf t)
  dis : ∀ a b k, a < 3 → b < 3 → a ≠ b → Fs a k → ¬ Fs b k
  nin : ∀ t a, t < N → a < 3 → ¬ Fs a (Lb t)
  ne : ∀ s t, s < N → t < N → s ≠ t → Lb s ≠ Lb t
  bel : Below W.heap.size W w

theorem Ap.below {W w w' : World} {N : Nat} {D Lb : Nat → Nat} {P : Nat → PS} {Fs : Nat → Nat → Prop} {bf : Nat → List Nat} {cf : Nat → Nat} (h : Ap W w N D Lb P Fs bf cf) (hb : Below w.heap.size w w') : Ap W w' N D Lb P Fs bf cf :=
  { h with di := fun a ha => (h.di a ha).below hb, one := fun t ht => (h.one t ht).below hb, bel := h.bel.trans (hb.mono h.bel.size) }

theorem Ap.step {W w w' : World} {N : Nat} {D Lb : Nat → Nat} {P : Nat → PS} {Fs : Nat → Nat → Prop} {bf : Nat → List Nat} {cf : Nat → Nat} (h : Ap W w N D Lb P Fs bf cf) {t : Nat} (ht : t < N) {p' : PS} {F' : Nat → Prop} {bs : List Nat} {ct dt dw : Nat} (k : Stp W w w' (D (dk t)) (Lb t) (P (dk t)) (Fs (dk t)) p' F' (nf t) bs ct dt dw) :
    Ap W w' N D Lb (put P (dk t) p') (put Fs (dk t) F') (put bf t bs) (put cf t ct) := by
  have h4 := h.n4
  have hd3 : ∀ s, s < N → dk s < 3 := fun s hs => dk_lt (by omega)
  have hF' : ∀ i, i < w.heap.size → F' i → Fs (dk t) i := fun i hi hf => Classical.byContradiction fun hn => (k.fx.block i hi hn).1 hf
  have hFlt : ∀ a, a < 3 → ∀ i, Fs a i → i < w.heap.size := fun a ha i hi => (h.di a ha).lt i hi
  have hLlt : ∀ s, s < N → Lb s < w.heap.size := fun s hs => heap_lt (h.one s hs).lg
  have hdi : ∀ a, a < 3 → a ≠ dk t → Di W.heap.size w' (D a) (P a) (Fs a) := fun a ha e => (h.di a ha).keep fun i hi => (k.fx.block i (hFlt a ha i hi) (h.dis a (dk t) i ha (hd3 t ht) e hi)).2 fun e2 => h.nin t a ht ha (by rw [← e2]; exact hi)
  refine ⟨h.n4, fun a ha => ?_, fun a ha => ?_, fun s hs => ?_, fun a b i ha hb hab => ?_, fun s a hs ha => ?_, h.ne, k.one.bel⟩
  · by_cases ea : a = dk t
    · subst ea; rw [put_at, put_at]; exact k.one.di
    · rw [put_ne _ ea, put_ne _ ea]; exact hdi a ha ea
  · by_cases ea : a = dk t
    · subst ea; rw [put_at]; exact ⟨k.one.room, k.one.off, k.one.ain⟩
    · rw [put_ne _ ea]; exact h.ps a ha
  · by_cases e : s = t
    · subst e
      rw [put_at, put_at, put_at, put_at]
      exact k.one
    · rw [put_ne _ e, put_ne _ e]
      have ho := h.one s hs
      have hb := k.fx.block (Lb s) (hLlt s hs) (h.nin s (dk t) hs (hd3 t ht))
      by_cases ed : dk s = dk t
      · rw [ed, put_at, put_at]
        exact ⟨k.one.di, k.oth _ (by rw [← ed]; exact ho.mem) (nf_ne (by omega) (by omega) e ed), ho.h8, ho.pre, k.one.room, k.one.off, k.one.ain, (hb.2 (h.ne s t hs ht e)).trans (by rw [← ed]; exact ho.lg), hb.1, ho.lge, k.one.bel⟩
      · rw [put_ne _ ed, put_ne _ ed]
        exact { ho with
          di := hdi _ (hd3 s hs) ed
          lg := (hb.2 (h.ne s t hs ht e)).trans ho.lg
          bel := k.one.bel }
  · by_cases ea : a = dk t
    · subst ea
      have hb2 : b ≠ dk t := fun e => hab e.symm
      rw [put_at, put_ne _ hb2]
      exact fun hf hg => h.dis _ _ i ha hb hab (hF' i (hFlt b hb i hg) hf) hg
    · rw [put_ne _ ea]
      by_cases eb : b = dk t
      · subst eb
        rw [put_at]
        exact fun hf hg => h.dis _ _ i ha hb hab hf (hF' i (hFlt a ha i hf) hg)
      · rw [put_ne _ eb]
        exact h.dis a b i ha hb hab
  · by_cases ea : a = dk t
    · subst ea
      rw [put_at]
      exact fun hf => h.nin s (dk t) hs ha (hF' _ (hLlt s hs) hf)
    · rw [put_ne _ ea]
      exact h.nin s a hs ha

theorem put_same {α : Type} (f : Nat → α) (t : Nat) : put f t (f t) = f := by
  funext s
  by_cases e : s = t
  · rw [e, put_at]
  · rw [put_ne _ e]

/-- One log more. -/
theorem Ap.more {W w w' : World} {N : Nat} {D Lb : Nat → Nat} {P : Nat → PS} {Fs : Nat → Nat → Prop} {bf : Nat → List Nat} {cf : Nat → Nat} (h : Ap W w N D Lb P Fs bf cf) (hN : N < 4) {p' : PS} {F' : Nat → Prop} {l : Nat} (hd : Di W.heap.size w' (D (dk N)) p' F') (hl : Lg w' l (D (dk N)) (nf N) 8 0) (hn : ¬ F' l) (hge : w.heap.size ≤ l) (hf : Fr w (Fs (dk N)) w' F') (hp : p'.room = 268435456 ∧ p'.off = false ∧ p'.ain = 0) (hm : (nf N, headB, 8) ∈ p'.con) (ho : ∀ y ∈ (P (dk N)).con, y.1 ≠ nf N → y ∈ p'.con) :
    Ap W w' (N + 1) D (put Lb N l) (put P (dk N) p') (put Fs (dk N) F') (put bf N headB) (put cf N 0) := by
  have hN3 : dk N < 3 := dk_lt hN
  have hF' : ∀ i, i < w.heap.size → F' i → Fs (dk N) i := fun i hi hff => Classical.byContradiction fun hnn => (hf.block i hi hnn).1 hff
  have hFlt : ∀ a, a < 3 → ∀ i, Fs a i → i < w.heap.size := fun a ha i hi => (h.di a ha).lt i hi
  have hLlt : ∀ s, s < N → Lb s < w.heap.size := fun s hs => heap_lt (h.one s hs).lg
  have hbel : Below W.heap.size W w' := bel_fr h.bel (Nat.le_refl _) hf (h.di _ hN3).ge
  have hdi : ∀ a, a < 3 → a ≠ dk N → Di W.heap.size w' (D a) (P a) (Fs a) := fun a ha e => (h.di a ha).keep fun i hi => (hf.block i (hFlt a ha i hi) (h.dis a (dk N) i ha hN3 e hi)).2
  refine ⟨hN, fun a ha => ?_, fun a ha => ?_, fun s hs => ?_, fun a b i ha hb hab => ?_, fun s a hs ha => ?_, fun s t hs ht hst => ?_, hbel⟩
  · by_cases ea : a = dk N
    · subst ea; rw [put_at, put_at]; exact hd
    · rw [put_ne _ ea, put_ne _ ea]; exact hdi a ha ea
  · by_cases ea : a = dk N
    · subst ea; rw [put_at]; exact hp
    · rw [put_ne _ ea]; exact h.ps a ha
  · by_cases e : s = N
    · subst e
      rw [put_at, put_at, put_at, put_at, put_at]
      exact ⟨hd, hm, by decide, by decide, hp.1, hp.2.1, hp.2.2, hl, hn, Nat.le_trans h.bel.size hge, hbel⟩
    · have hs' : s < N := by omega
      rw [put_ne _ e, put_ne _ e, put_ne _ e]
      have ho1 := h.one s hs'
      have hb := hf.block (Lb s) (hLlt s hs') (h.nin s (dk N) hs' hN3)
      by_cases ed : dk s = dk N
      · rw [ed, put_at, put_at]
        exact ⟨hd, ho _ (by rw [← ed]; exact ho1.mem) (nf_ne (by omega) hN e ed), ho1.h8, ho1.pre, hp.1, hp.2.1, hp.2.2, hb.2.trans (by rw [← ed]; exact ho1.lg), hb.1, ho1.lge, hbel⟩
      · rw [put_ne _ ed, put_ne _ ed]
        exact { ho1 with
          di := hdi _ (dk_lt (by omega)) ed
          lg := hb.2.trans ho1.lg
          bel := hbel }
  · by_cases ea : a = dk N
    · subst ea
      have hb2 : b ≠ dk N := fun e => hab e.symm
      rw [put_at, put_ne _ hb2]
      exact fun hf hg => h.dis _ _ i ha hb hab (hF' i (hFlt b hb i hg) hf) hg
    · rw [put_ne _ ea]
      by_cases eb : b = dk N
      · subst eb
        rw [put_at]
        exact fun hf hg => h.dis _ _ i ha hb hab hf (hF' i (hFlt a ha i hf) hg)
      · rw [put_ne _ eb]
        exact h.dis a b i ha hb hab
  · by_cases e : s = N
    · subst e
      rw [put_at]
      by_cases ea : a = dk s
      · subst ea; rw [put_at]; exact hn
      · rw [put_ne _ ea]; exact fun hff => by have := hFlt a ha _ hff; omega
    · have hs' : s < N := by omega
      rw [put_ne _ e]
      by_cases ea : a = dk N
      · subst ea
        rw [put_at]
        exact fun hff => h.nin s (dk N) hs' ha (hF' _ (hLlt s hs') hff)
      · rw [put_ne _ ea]
        exact h.nin s a hs' ha
  · by_cases es : s = N
    · have et : t ≠ N := fun e => hst (es.trans e.symm)
      rw [es, put_at, put_ne _ et]
      have := hLlt t (by omega); omega
    · rw [put_ne _ es]
      by_cases et : t = N
      · rw [et, put_at]
        have := hLlt s (by omega); omega
      · rw [put_ne _ et]
        exact h.ne s t (by omega) (by omega) hst

theorem con_lay_new {c : Con} {nm : ByteArray} (h : ∀ y ∈ c, y.1 ≠ nm) (bs : List Nat) : Con.lay c nm bs = c ++ [(nm, bs, bs.length)] := by
  have ha : Con.app c nm bs = c ++ [(nm, bs, 0)] := by
    unfold Con.app
    rw [if_neg fun e => ?_]
    obtain ⟨y, hy, e⟩ := List.any_eq_true.1 e
    exact h y hy (by simpa using e)
  unfold Con.lay
  rw [ha]
  unfold Con.upd
  rw [List.map_append]
  congr 1
  · have := con_upd_none h (fun q => (q.1, q.1.length)); unfold Con.upd at this; exact this
  · simp
theorem con_tot_app (a b : Con) : Con.tot (a ++ b) = Con.tot a + Con.tot b := by
  induction a with
  | nil => simp [Con.tot]
  | cons x l ih => simp only [List.cons_append, Con.tot, ih]; omega

/-- What the disks hold as the logs are opened. -/
def Opn (N : Nat) (P : Nat → PS) : Prop := ∀ a, a < 3 → (P a).con.length ≤ N ∧ Con.tot (P a).con ≤ 8 * N ∧ (P a).wr ≤ 2 * N ∧ ∀ t, N ≤ t → t < 4 → dk t = a → ∀ y ∈ (P a).con, y.1 ≠ nf t

theorem ap_open {W w : World} {N : Nat} {D Lb : Nat → Nat} {P : Nat → PS} {Fs : Nat → Nat → Prop} {bf : Nat → List Nat} {cf : Nat → Nat} (h : Ap W w N D Lb P Fs bf cf) (q : Opn N P) (hN : N < 4) :
    Calls Tryd.prog 7 #[.pointer (some ⟨D (dk N), 0, none⟩), .string (nf N)] w fun e w' => ∃ l p' F', e = .returned (.tuple #[.pointer (some ⟨l, 0, none⟩), .slice none 0 0, .int .i64 0]) ∧ Ap W w' (N + 1) D (put Lb N l) (put P (dk N) p') (put Fs (dk N) F') (put bf N headB) (put cf N 0) ∧ Opn (N + 1) (put P (dk N) p') := by
  have hN3 : dk N < 3 := dk_lt hN
  obtain ⟨q1, q2, q3, q4⟩ := q (dk N) hN3
  obtain ⟨r1, r2, r3⟩ := h.ps (dk N) hN3
  have hno := q4 N (Nat.le_refl _) hN rfl
  refine (open_new w (h.di _ hN3) (nf N) r2 r3 (by omega) (nf_ok N) ⟨hno, by omega⟩ (by rw [r1]; omega)).mono ?_
  rintro e w' ⟨l, F', rfl, k1, k2, k3, k4, k5⟩
  have hc := con_lay_new hno headB
  refine ⟨l, _, F', rfl, h.more hN k1 k2 k3 k4 k5 ⟨r1, r2, r3⟩ (by dsimp only; rw [hc]; exact List.mem_append_right _ (List.mem_singleton.2 rfl)) (fun y hy _ => by dsimp only; rw [hc]; exact List.mem_append_left _ hy), fun a ha => ?_⟩
  by_cases ea : a = dk N
  · subst ea
    rw [put_at]
    dsimp only
    rw [hc]
    refine ⟨by simp; omega, by rw [con_tot_app]; show _ + (8 + 0) ≤ _; omega, by omega, fun t ht ht4 hd y hy => ?_⟩
    rcases List.mem_append.1 hy with hy | hy
    · exact q4 t (by omega) ht4 hd y hy
    · rw [List.mem_singleton.1 hy]; exact nf_ne hN ht4 (by omega) hd.symm
  · rw [put_ne _ ea]
    obtain ⟨s1, s2, s3, s4⟩ := q a ha
    exact ⟨by omega, by omega, by omega, fun t ht => s4 t (by omega)⟩

/-- Bytes that stay as they are, whatever a disk does. -/
def Hv (w : World) (Fs : Nat → Nat → Prop) (v : Value) (bs : List Nat) : Prop := IsBy w v bs ∧ ∀ k, v.ownBlock = some k → k < w.heap.size ∧ ∀ a, a < 3 → ¬ Fs a k
theorem Hv.below {w w' : World} {Fs : Nat → Nat → Prop} {v : Value} {bs : List Nat} (h : Hv w Fs v bs) (hb : Below w.heap.size w w') : Hv w' Fs v bs := ⟨isBy_below h.1 hb, fun k e => ⟨Nat.lt_of_lt_of_le (h.2 k e).1 hb.size, (h.2 k e).2⟩⟩

theorem ap_read {W w : World} {N : Nat} {D Lb : Nat → Nat} {P : Nat → PS} {Fs : Nat → Nat → Prop} {bf : Nat → List Nat} {cf : Nat → Nat} (h : Ap W w N D Lb P Fs bf cf) {t : Nat} (ht : t < N) :
    Calls Tryd.prog 34 #[.pointer (some ⟨D (dk t), 0, none⟩), .string (nf t)] w fun e w' => ∃ v, e = .returned (.tuple #[v, .int .i64 0]) ∧ Ap W w' N D Lb P Fs bf cf ∧ Hv w' Fs v (bf t) ∧ ∀ u cs, Hv w Fs u cs → Hv w' Fs u cs := by
  have ho := h.one t ht
  have h4 := h.n4
  refine (di_read w ho.di ho.off (nf t) (nf_ok t) (bf t) (bf t).length ho.mem).mono ?_
  rintro e w' ⟨v, rfl, ⟨k1, k2⟩, k3, k4, k5⟩
  have hs : Stp W w w' (D (dk t)) (Lb t) (P (dk t)) (Fs (dk t)) (P (dk t)) (Fs (dk t)) (nf t) (bf t) (cf t) 0 0 :=
    ⟨{ ho with di := k1, lg := ho.lg.fr k2 ho.nl, bel := bel_fr ho.bel (Nat.le_refl _) k2 ho.di.ge }, by omega, by omega, fun y hy _ => hy, k2.fx⟩
  have ha := h.step ht hs
  rw [put_same, put_same, put_same, put_same] at ha
  refine ⟨v, rfl, ha, ⟨(⟨k3, Below.refl _ _, k2.size⟩ : OB w.heap.size w' (bf t) v w').by_, fun k e => ⟨(k3.lt k e).2, fun a ha3 hF => ?_⟩⟩, fun u cs hu => ⟨isBy_keep hu.1 fun k e => (k2.block k (hu.2 k e).1 ((hu.2 k e).2 _ (dk_lt (by omega)))).2, fun k e => ⟨Nat.lt_of_lt_of_le (hu.2 k e).1 k2.size, (hu.2 k e).2⟩⟩⟩
  have h1 := (k3.lt k e).1
  have h2 := (h.di a ha3).lt k hF
  omega

end Go.Proofs.YtgmahgfelbkoeaaDoor

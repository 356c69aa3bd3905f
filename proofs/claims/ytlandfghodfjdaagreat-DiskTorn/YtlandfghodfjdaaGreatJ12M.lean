/- Files: the walk. -/
import Derived.Test.YtlandfghodfjdaaGreatJ12K
/- Files: all that stands there. -/
namespace Go.Proofs.YtlandfghodfjdaaGreat
open Go.RowKit
open Go.MuLone (lock_free unlock_deferred run_callFunc_enter)
set_option linter.unusedVariables false
set_option linter.unusedSimpArgs false

/-- Rows of bytes of one's own. -/
def RowW (w : World) (lo hi : Nat) (vals : List Value) (rs : List (List Nat)) : Prop := vals.length = rs.length ∧ ∀ i v, vals[i]? = some v → IsBy w v (rs.getD i []) ∧ ∀ k, v.ownBlock = some k → (lo ≤ k ∧ k < hi) ∧ ∃ cs, w.heap[k]? = some (.cells cs 5 (0, 0))

theorem isBy_keepW {w w' : World} {v : Value} {bs : List Nat} (h : IsBy w v bs) (hk : ∀ k, v.ownBlock = some k → w'.heap[k]? = w.heap[k]?) : IsBy w' v bs := by
  rcases h with (h | ⟨g, o, cap, h1, h2⟩) | h
  · exact .inl (.inl h)
  · exact .inl (.inr ⟨g, o, cap, h1, fun i hi => by rw [World.cell?_of_block (w := w) (w' := w') (a := ⟨g, o + i, none⟩) (hk g (by rw [h1]; rfl))]; exact h2 i hi⟩)
  · exact .inr h

theorem RowW.keep8 {w w' : World} {lo hi hi' : Nat} {vals : List Value} {rs : List (List Nat)} (h : RowW w lo hi vals rs) (hk : ∀ k cs, lo ≤ k → k < hi → w.heap[k]? = some (.cells cs 5 (0, 0)) → w'.heap[k]? = w.heap[k]?) (h2 : hi ≤ hi') : RowW w' lo hi' vals rs :=
  ⟨h.1, fun i v hv => by
    obtain ⟨e1, e2⟩ := h.2 i v hv
    have e3 : ∀ k, v.ownBlock = some k → w'.heap[k]? = w.heap[k]? := fun k e => by
      obtain ⟨⟨a1, a2⟩, cs, a3⟩ := e2 k e
      exact hk k cs a1 a2 a3
    exact ⟨isBy_keepW e1 e3, fun k e => ⟨⟨(e2 k e).1.1, Nat.lt_of_lt_of_le (e2 k e).1.2 h2⟩, by obtain ⟨_, cs, a3⟩ := e2 k e; exact ⟨cs, (e3 k e).trans a3⟩⟩⟩⟩

theorem RowW.more {w : World} {lo hi : Nat} {vals : List Value} {rs : List (List Nat)} (h : RowW w lo hi vals rs) {v : Value} {r : List Nat} (hv : IsBy w v r ∧ ∀ k, v.ownBlock = some k → (lo ≤ k ∧ k < hi) ∧ ∃ cs, w.heap[k]? = some (.cells cs 5 (0, 0))) : RowW w lo hi (vals ++ [v]) (rs ++ [r]) := by
  refine ⟨by simp [h.1], fun i u hu => ?_⟩
  rcases Nat.lt_or_ge i vals.length with hi' | hi'
  · rw [List.getElem?_append_left hi'] at hu
    rw [show (rs ++ [r]).getD i [] = rs.getD i [] from by simp [List.getD, List.getElem?_append_left (by rw [← h.1]; exact hi')]]
    exact h.2 i u hu
  · rw [List.getElem?_append_right hi'] at hu
    have hi0 : i - vals.length = 0 := by
      rcases Nat.eq_zero_or_pos (i - vals.length) with h0 | h0
      · exact h0
      · rw [List.getElem?_eq_none (by simp; omega)] at hu; simp at hu
    rw [hi0] at hu
    simp at hu
    subst hu
    rw [show (rs ++ [r]).getD i [] = r from by
      have : i = rs.length := by rw [← h.1]; omega
      subst this
      simp [List.getD]]
    exact hv

/-- The cells of a row of files. -/
def fcells : List (ByteArray × List Nat) → List Value → List Value
  | x :: fs, u :: us => .string x.1 :: u :: fcells fs us
  | _, _ => []
theorem fcells_more : ∀ (fs : List (ByteArray × List Nat)) (us : List Value) (x : ByteArray × List Nat) (u : Value), us.length = fs.length → fcells (fs ++ [x]) (us ++ [u]) = fcells fs us ++ [.string x.1, u]
  | [], [], x, u, _ => rfl
  | y :: fs, v :: us, x, u, h => by simp [fcells, fcells_more fs us x u (by simpa using h)]
  | [], _ :: _, _, _, h => by simp at h
  | _ :: _, [], _, _, h => by simp at h

/-- A slice that may be cut. -/
def Cpd (u : Value) : Prop := ∃ (p : Option Addr) (l c : Nat), u = .slice p l c ∧ l ≤ c ∧ (p = none → c = 0)
theorem Cpd.of_own {w : World} {B : Nat} {t : TypeId} {sz : Nat} {u : Value} {n : Nat} {xs : List Value} (h : w.ownsRow B t sz u n xs) : Cpd u := by
  rcases h.2 with ⟨e1, _⟩ | ⟨g', cap, cur, e1, _, _, e3, _⟩
  · exact ⟨none, 0, 0, e1, Nat.le_refl _, fun _ => rfl⟩
  · exact ⟨_, n, cap, e1, e3, fun e => by simp at e⟩

/-- A row of files of one's own. -/
structure FilesAt (w : World) (lo : Nat) (v : Value) (vals : List Value) (fs : List (ByteArray × List Nat)) : Prop where
  own : w.ownsRow lo 74 2 v fs.length (fcells fs vals)
  row : RowW w lo w.heap.size vals (fs.map (·.2))
  cap : ∀ u ∈ vals, Cpd u

/-- The files of a disk by their names. -/
def bytesOf (S : DS) (nm : ByteArray) : List Nat := ((S.L.find? fun x => decide (x.nm = nm)).map (·.bs)).getD []
def filesOf (S : DS) (ns : List ByteArray) : List (ByteArray × List Nat) := ns.map fun n => (n, bytesOf S n)

theorem bytes_of {B : Nat} {w : World} {lk : Int} {S : DS} (h : Dk B w lk S) {x : Fi} (hx : x ∈ S.L) : bytesOf S x.nm = x.bs := by
  unfold bytesOf
  cases hf : S.L.find? (fun y => decide (y.nm = x.nm)) with
  | none => exact absurd (List.find?_eq_none.1 hf x hx) (by simp)
  | some y =>
    have h1 := List.find?_some hf
    have h2 := List.mem_of_find?_eq_some hf
    rw [ent_inj h.nd h2 hx (by simpa using h1)]
    rfl

/-- One more file. -/
theorem files_more {lo : Nat} {wk w3 w4 : World} {v v3 v6 : Value} {vals : List Value} {fs : List (ByteArray × List Nat)} {n : ByteArray} {r : List Nat} {X : Obj} (hlo : lo ≤ wk.heap.size) (h : FilesAt wk lo v vals fs) (hO : OB wk.heap.size wk r v3 w3)
    (ho4 : w4.ownsRow lo 74 2 v6 (fs.length + 1) (fcells fs vals ++ [.string n, v3])) (hg4 : (w3.alloc X).grownBy w4 v.ownBlock) :
    FilesAt w4 lo v6 (vals ++ [v3]) (fs ++ [(n, r)]) ∧ Below lo wk w4 := by
  have hb3 : Below wk.heap.size wk w3 := hO.bel
  have hsz4 : w3.heap.size ≤ w4.heap.size := Nat.le_trans (by simp) hg4.size
  have hlen : vals.length = fs.length := by have := h.row.1; simpa using this
  have hne : ∀ k, k < w3.heap.size → (some k ≠ v.ownBlock) → w4.heap[k]? = w3.heap[k]? := fun k hk hx => (hg4.block k (by simp; omega) hx).trans (Below.heap_alloc _ _ _ hk)
  have hge : ∀ k, some k = v.ownBlock → lo ≤ k := fun k e => (h.own.lt k e.symm).1
  have how3 : w3.ownsRow lo 74 2 v fs.length (fcells fs vals) := ownsRow_keep h.own fun g hg => hb3.block g (h.own.lt g hg).2
  have hty : ∀ k cs, k < w3.heap.size → w3.heap[k]? = some (.cells cs 5 (0, 0)) → w4.heap[k]? = w3.heap[k]? := fun k cs hk hc => hne k hk fun e => by
    rcases how3.2 with ⟨e1, _⟩ | ⟨g', cap, cur, e1, _, e3, _⟩
    · rw [e1] at e; simp [Value.ownBlock] at e
    · rw [e1] at e; simp [Value.ownBlock] at e; subst e; rw [hc] at e3; simp at e3
  have hcell : ∀ k, v3.ownBlock = some k → ∃ cs, w3.heap[k]? = some (.cells cs 5 (0, 0)) := fun k e => by
    rcases hO.own.2 with ⟨e1, _⟩ | ⟨g', cap, cur, e1, _, e3, _⟩
    · rw [e1] at e; simp [Value.ownBlock] at e
    · rw [e1] at e; simp [Value.ownBlock] at e; subst e; exact ⟨_, e3⟩
  refine ⟨⟨by rw [List.length_append, fcells_more _ _ _ _ hlen]; exact ho4, ?_, fun u hu => ?_⟩, hg4.os.trans hb3.os, hg4.tape.trans hb3.tape, hg4.output.trans hb3.output, Nat.le_trans hb3.size hsz4, fun k hk => ?_⟩
  · rw [List.map_append]
    refine (h.row.keep8 (w' := w4) (hi' := w4.heap.size) (fun k cs _ hk hc => ?_) (Nat.le_trans hb3.size hsz4)).more ⟨?_, fun k e => ?_⟩
    · have hk3 := hb3.block k hk
      exact (hty k cs (Nat.lt_of_lt_of_le hk hb3.size) (hk3.trans hc)).trans hk3
    · exact isBy_keepW hO.by_ fun k e => by
        obtain ⟨cs, hc⟩ := hcell k e
        exact hty k cs (hO.own.lt k e).2 hc
    · obtain ⟨cs, hc⟩ := hcell k e
      have hl := hO.own.lt k e
      exact ⟨⟨Nat.le_trans hlo hl.1, Nat.lt_of_lt_of_le hl.2 hsz4⟩, cs, (hty k cs hl.2 hc).trans hc⟩
  · rcases List.mem_append.1 hu with hu | hu
    · exact h.cap u hu
    · rw [List.mem_singleton.1 hu]; exact Cpd.of_own hO.own
  · exact (hne k (by have := hb3.size; omega) fun e => by have := hge k e; omega).trans (hb3.block k (by omega))

end Go.Proofs.YtlandfghodfjdaaGreat

namespace Go.Proofs.YtlandfghodfjdaaGreat
open Go.RowKit
open Go.MuLone (lock_free unlock_deferred run_callFunc_enter)
set_option linter.unusedVariables false
set_option linter.unusedSimpArgs false

theorem infoFile : ∃ i, Tryz.prog.info? 74 = some i ∧ i.zero = some (.agg #[.string ByteArray.empty, .slice none 0 0]) ∧ i.size = 2 ∧ i.bytes = 40 := by
  obtain ⟨i, h1, h2, h3, h4⟩ := info_parts (P := Tryz.prog) (e := 74) (z := .agg #[.string ByteArray.empty, .slice none 0 0]) (size := 2) (bytes := 40) (by kernel_rfl)
  exact ⟨i, h1, h2, h3, h4⟩

theorem FilesAt.keep {w w' : World} {lo : Nat} {v : Value} {vals : List Value} {fs : List (ByteArray × List Nat)} (h : FilesAt w lo v vals fs) (hk : ∀ k, lo ≤ k → k < w.heap.size → w'.heap[k]? = w.heap[k]?) (hs : w.heap.size ≤ w'.heap.size) : FilesAt w' lo v vals fs :=
  ⟨ownsRow_keep h.own fun g hg => hk g (h.own.lt g hg).1 (h.own.lt g hg).2, h.row.keep8 (fun k cs h1 h2 _ => hk k h1 h2) hs, h.cap⟩

theorem row_at {w : World} {lo : Nat} {t : TypeId} {v : Value} {n : Nat} {vals : List Value} (h : w.ownsRow lo t 1 v n vals) (hn : 0 < n) : ∃ g cap cur, v = .slice (some ⟨g, 0, none⟩) n cap ∧ lo ≤ g ∧ w.heap[g]? = some (.cells cur t (0, 0)) ∧ ∀ i u, i < n → vals[i]? = some u → w.cell? ⟨g, i, none⟩ = some u := by
  rcases h.2 with ⟨h1, h2⟩ | ⟨g, cap, cur, h1, hb, hg, hc, hm, hs, ht⟩
  · omega
  · refine ⟨g, cap, cur, h1, hb, hg, fun i u hi hu => ?_⟩
    rw [cell_of_row _ _ _ _ _ _ hg]
    rw [Nat.mul_one] at ht
    have : (cur.toList.take n)[i]? = some u := by rw [ht]; exact hu
    rw [List.getElem?_take, if_pos hi] at this
    simpa using this

theorem own_low {w : World} {B B' : Nat} {e : TypeId} {sz : Nat} {v : Value} {n : Nat} {xs : List Value} (h : w.ownsRow B e sz v n xs) (hB : B' ≤ B) : w.ownsRow B' e sz v n xs := by
  refine ⟨h.1, ?_⟩
  rcases h.2 with h1 | ⟨g, cap, cur, e1, e2, e3⟩
  · exact .inl h1
  · exact .inr ⟨g, cap, cur, e1, Nat.le_trans hB e2, e3⟩
theorem ob_slice {B : Nat} {w0 wr : World} {bs : List Nat} {v : Value} (h : OB B w0 bs v wr) : ∃ p c, v = .slice p bs.length c := by
  rcases h.own.2 with ⟨e1, e2⟩ | ⟨g, cap, cur, e1, _⟩
  · exact ⟨none, 0, by rw [e1, e2]⟩
  · exact ⟨_, cap, e1⟩

/-- While the files are gone through. -/
structure FlI (B : Nat) (S : DS) (w2 wr : World) (ns : List ByteArray) (vn : Value) (v : Value) (i : Nat) (vals : List Value) : Prop where
  fl : FilesAt wr w2.heap.size v vals (filesOf S (ns.take i))
  bel : Below w2.heap.size w2 wr
  row : wr.ownsRow w2.heap.size 9 1 vn ns.length (ns.map Value.string)

set_option maxRecDepth 100000 in
set_option maxHeartbeats 4000000 in
theorem files_any {B : Nat} {S : DS} (w : World) (h : Dk B w 0 S) (hN : ∀ x ∈ S.L, x.nm.size ≤ maxLen) :
    Calls Tryz.prog 10 #[.pointer (some ⟨S.d, 0, none⟩)] w fun e w' => ∃ (p : Option Addr) (n c : Nat), e = .returned (.slice p n c) ∧ ∃ (vals : List Value) (ns : List ByteArray), (n = ns.length ∧ ns.Perm (S.L.map (·.nm)) ∧ inOrder ns) ∧ FilesAt w' w.heap.size (.slice p n c) vals (filesOf S ns) ∧ Dk B w' 0 S ∧ Fr w (Fp S) w' (Fp S) := by
  have l1 := h.cell 0 (.int .i32 0) rfl
  have l2 := frozen_of h.dk 0
  have HE : Hid (Dk B (w.setCell ⟨S.d, 0, none⟩ (.int .i32 1)) 1 S ∧ Fr w (Fp S) (w.setCell ⟨S.d, 0, none⟩ (.int .i32 1)) (Fp S) ∧ (w.setCell ⟨S.d, 0, none⟩ (.int .i32 1)).heap.size = w.heap.size) := ⟨h.setLock 1, Fr.setCell (.inl rfl) _, by simp [World.setCell]⟩
  have HN := hide hN
  have HCT := hide h.ct
  have HRM := hide h.rm
  clear h hN
  go_enter_defers Tryz.func10, Tryz.ntmps10
  go_upto_block 0 with (first
    | (go_at_call 28; refine (lock_free muLib ⟨S.d, 0, none⟩ _ l1 l2).mono ?_; rintro e w2 ⟨rfl, hw2⟩; have H2 : Hid (Dk B w2 1 S ∧ Fr w (Fp S) w2 (Fp S) ∧ w2.heap.size = w.heap.size) := (by rw [hw2]; exact HE.out); clear hw2 l1 l2 HE)
    | (go_at_call 30; refine (names2_any (H2.out.1.below ((Below.refl _ _).alloc (Nat.le_refl _) _)) HN.out).mono ?_; rintro e w3 ⟨vn, ns, rfl, hp, ho, hrow, hb⟩; have H3 : Hid (ns.Perm (S.L.map (·.nm)) ∧ inOrder ns ∧ w3.ownsRow (w2.alloc (.cells #[] 74)).heap.size 9 1 vn ns.length (ns.map Value.string) ∧ Below (w2.alloc (.cells #[] 74)).heap.size (w2.alloc (.cells #[] 74)) w3) := ⟨hp, ho, hrow, hb⟩; obtain ⟨pn, cn, hvn⟩ : ∃ pn cn, vn = .slice pn ns.length cn := (by rcases hrow.2 with ⟨e1, e2⟩ | ⟨g', cap, cur, e1, _⟩; exact ⟨none, 0, by rw [e1, e2]⟩; exact ⟨_, _, e1⟩); obtain ⟨N, hNN⟩ : ∃ N, ns.length = N := ⟨_, rfl⟩; rw [hNN] at hvn; subst hvn; have HNN := hide hNN; clear hp ho hrow hb hNN))
  have HS0 : Hid (FlI B S w2 w3 ns (.slice pn N cn) (.slice (some ⟨w2.heap.size, 0, none⟩) 0 0) 0 []) := by
    have hb : Below w2.heap.size w2 (w2.alloc (.cells #[] 74)) := (Below.refl _ _).alloc (Nat.le_refl _) _
    have hb3 := hb.trans (H3.out.2.2.2.mono hb.size)
    have hc : w3.heap[w2.heap.size]? = some (.cells #[] 74 (0, 0)) := (H3.out.2.2.2.block _ (by simp)).trans (heap_alloc_new w2 _)
    have hrow := H3.out.2.2.1
    exact ⟨⟨⟨rfl, .inr ⟨w2.heap.size, 0, #[], rfl, Nat.le_refl _, hc, Nat.le_refl _, by unfold maxLen; omega, rfl, rfl⟩⟩, ⟨rfl, fun i v hv => by simp at hv⟩, fun u hu => by simp at hu⟩, hb3, own_low hrow (by simp)⟩
  go_wp2_with fail
  go_loopw [3, 17] (fun t3 t17 wr => ∃ (pv : Option Addr) (cv i : Nat), t3 = .slice pv i cv ∧ t17 = .int .i64 (i : Int) ∧ i ≤ N ∧ Hid (∃ vals, FlI B S w2 wr ns (.slice pn N cn) (.slice pv i cv) i vals)) (fun _ t17 _ => N - (intOf t17).toNat)
  case atStart => exact ⟨_, 0, 0, rfl, rfl, by omega, [], HS0.out⟩
  case round =>
    obtain ⟨pv, cv, i, rfl, rfl, hiN, hI⟩ := hrel
    obtain ⟨vals, hS⟩ := hI.out
    have HS := hide hS
    clear hI hS HS0
    by_cases hi : i < N
    · have hi' : (i : Int) < (N : Int) := by omega
      have HI : Hid (i < ns.length) := by show _ < _; rw [HNN.out]; exact hi
      obtain ⟨x, hx, hxn⟩ : ∃ x ∈ S.L, x.nm = ns[i]'HI.out := by
        have := H3.out.1.subset (List.getElem_mem HI.out)
        obtain ⟨x, hx, e⟩ := List.mem_map.1 this
        exact ⟨x, hx, e⟩
      have HXN := hide hxn
      obtain ⟨gN, kN, curN, hvn, hge, hcurN, hcells⟩ := row_at HS.out.row (Nat.lt_of_le_of_lt (Nat.zero_le _) HI.out)
      simp only [Value.slice.injEq] at hvn
      obtain ⟨rfl, -, -⟩ := hvn
      have hcell : wr.cell? ⟨gN, i, none⟩ = some (.string x.nm) := hcells i _ HI.out (by rw [List.getElem?_map, List.getElem?_eq_getElem HI.out, HXN.out]; rfl)
      have hD := H2.out.1.below HS.out.bel
      have c3 := hD.cell 3 (.map (some S.m)) rfl
      have hlk := hD.look hx
      obtain ⟨px, kx, hvx⟩ := hD.fslice hx
      have cx : wr.cell? ⟨x.f, 0, none⟩ = some (.slice px x.bs.length kx) := by rw [← hvx]; exact hD.fcell hx
      have hxl : x.bs.length ≤ 268435456 := by
        have := Con.tot_upd (con_nodup hD) (con_mem hx) [] 0
        have h4 := HRM.out
        rw [tot_con] at h4
        have e : S.ps.con = S.L.map Fi.con := rfl
        rw [e] at this; simp at this; omega
      have HCL := hide (bclone_any (.slice px x.bs.length kx) x.bs wr (by have ho : OB B wr x.bs x.v wr := ⟨hD.ow x hx, Below.refl _ _, hD.lt⟩; have := ho.by_; rw [hvx] at this; exact this) (by omega))
      obtain ⟨nb, hnb⟩ : ∃ nb, x.bs.length = nb := ⟨_, rfl⟩
      rw [hnb] at cx HCL
      have HNB := hide hnb
      have HB := hide (bytes_of hD hx)
      have HC := hide hcurN
      obtain ⟨iF, hiF⟩ := infoFile
      have Hi := hide hiF
      have hN2 : N ≤ 256 := by have h1 := H3.out.1.length_eq; rw [HNN.out] at h1; simp at h1; have := HCT.out; omega
      clear hxn hD hvx hcells hcurN hnb hiF hxl
      go_wp2_with (first
        | (go_at_call 31; refine HCL.out.mono ?_; rintro e w5 ⟨v5, rfl, hO5⟩; obtain ⟨q5, k5, hv5⟩ := ob_slice hO5; rw [HNB.out] at hv5; subst hv5; have HO5 := hide hO5; clear hO5 HCL)
        | (at_builtin; refine wpList_append_own_at _ rfl _ _ _ rfl w2.heap.size 74 iF (.agg #[.string ByteArray.empty, .slice none 0 0]) 2 40 Tryz.underlying34 Hi.out.1 Hi.out.2.1 Hi.out.2.2.1 Hi.out.2.2.2 rfl (by decide) (.slice pv i cv) i (fcells (filesOf S (ns.take i)) vals) rfl ?f0 ⟨w5.heap.size, 0, none⟩ 1 1 [.string x.nm, .slice q5 nb k5] rfl rfl (World.news_of_block (heap_alloc_new w5 _)) ?f1 ?f4 ?f5 ?f7 ?f6))
      case f0 =>
        have hl : (filesOf S (ns.take i)).length = i := by unfold filesOf; rw [List.length_map, List.length_take, Nat.min_eq_left (Nat.le_of_lt HI.out)]
        have := HS.out.fl.own
        rw [hl] at this
        exact (ownsRow_keep this fun g hg => HO5.out.bel.block g (this.lt g hg).2).alloc _
      case f1 => intro u hu; rcases List.mem_cons.1 hu with rfl | hu; rfl; rw [List.mem_singleton.1 hu]; rfl
      case f4 => unfold maxLen; omega
      case f5 => omega
      case f7 => have h1 := HS.out.bel.size; have h2 := HO5.out.bel.size; simp; omega
      case f6 =>
        intro v6 w6 ho6 hg6 _ hat6
        have hv6 : ∃ p c, v6 = .slice p (i + 1) c := by
          rcases ho6.2 with ⟨_, e2⟩ | ⟨g', cap, cur, e1, _⟩
          · omega
          · exact ⟨_, _, e1⟩
        have H6 : Hid (FlI B S w2 w6 ns (.slice (some ⟨gN, 0, none⟩) N cn) v6 (i + 1) (vals ++ [.slice q5 nb k5])) := by
          have hl : (filesOf S (ns.take i)).length = i := by unfold filesOf; rw [List.length_map, List.length_take, Nat.min_eq_left (Nat.le_of_lt HI.out)]
          have hfm := files_more (n := x.nm) HS.out.bel.size HS.out.fl HO5.out (by rw [hl]; exact ho6) hg6
          have hnx : filesOf S (ns.take (i + 1)) = filesOf S (ns.take i) ++ [(x.nm, x.bs)] := by
            unfold filesOf
            rw [List.take_add_one, List.getElem?_eq_getElem HI.out, List.map_append]
            simp only [Option.toList, List.map_cons, List.map_nil]
            rw [← HXN.out, HB.out]
          refine ⟨by rw [hnx]; exact hfm.1, HS.out.bel.trans hfm.2, ownsRow_keep HS.out.row fun g hg => ?_⟩
          have eg : g = gN := by simpa [Value.ownBlock] using hg.symm
          subst eg
          have hlt := (HS.out.row.lt g hg).2
          have h5 := HO5.out.bel.block g hlt
          refine ((hg6.block g (by have := HO5.out.bel.size; simp; omega) fun e => ?_).trans (Below.heap_alloc _ _ _ (by have := HO5.out.bel.size; omega))).trans h5
          have ho := HS.out.fl.own
          rcases ho.2 with ⟨e1, _⟩ | ⟨g', cap, cur, e1, _, e3, _⟩
          · rw [e1] at e; simp [Value.ownBlock] at e
          · rw [e1] at e; simp [Value.ownBlock] at e; subst e; rw [HC.out] at e3; simp at e3
        obtain ⟨p6, c6, hv6⟩ := hv6
        subst hv6
        clear ho6 hg6 hat6 HO5
        go_wp2_with fail
        go_roundw
        case rel => exact ⟨p6, c6, i + 1, by simp, by simp, by omega, _, H6.out⟩
        case measure => simp [intOf]; omega
    · have hi' : ¬ (i : Int) < (N : Int) := by omega
      have HE : Hid (ns.take i = ns) := by show _ = _; exact List.take_of_length_le (by rw [HNN.out]; omega)
      have HD := hide (H2.out.1.below HS.out.bel)
      go_wp2_with fail
      have HZ := hide (door_of HD.out rfl)
      refine leaves_cons (f := 29) (args := #[.pointer (some ⟨S.d, 0, none⟩)]) (by simp) (by simp [go_sem]) ?_
      refine (unlock_deferred muLib ⟨S.d, 0, none⟩ .returning _ ?_ ?_).mono ?_
      · exact HZ.out.1
      · exact HZ.out.2.1
      rintro e u' w'' ⟨rfl, rfl, rfl⟩
      have hdl : S.d < w2.heap.size := heap_lt H2.out.1.dk
      refine ⟨_, results_tmp rfl _ _ _, pv, i, cv, rfl, vals, ns, ⟨by rw [HNN.out]; omega, H3.out.1, H3.out.2.1⟩, ?_, HZ.out.2.2.1, (H2.out.2.1.trans (Fr.of_below HS.out.bel)).trans HZ.out.2.2.2⟩
      have hf := HS.out.fl
      rw [HE.out, H2.out.2.2] at hf
      exact hf.keep (fun k h1 h2 => Below.heap_setCell _ ⟨S.d, 0, none⟩ _ _ (fun e => by have e' : k = S.d := e; have := H2.out.2.2; omega)) (by simp [World.setCell])

end Go.Proofs.YtlandfghodfjdaaGreat

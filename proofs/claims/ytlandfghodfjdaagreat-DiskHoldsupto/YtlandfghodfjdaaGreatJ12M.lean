/- Files: the walk. -/
import Derived.Test.YtlandfghodfjdaaGreatJ12L
namespace Go.Proofs.YtlandfghodfjdaaGreat
open Go.RowKit
open Go.MuLone (lock_free unlock_deferred run_callFunc_enter)
set_option linter.unusedVariables false
set_option linter.unusedSimpArgs false

theorem infoFile : ∃ i, Tryz.prog.info? 74 = some i ∧ i.zero = some (.agg #[.string ByteArray.empty, .slice none 0 0]) ∧ i.size = 2 ∧ i.bytes = 40 := by
  obtain ⟨i, h1, h2, h3, h4⟩ := info_parts (P := Tryz.prog) (e := 74) (z := .agg #[.string ByteArray.empty, .slice none 0 0]) (size := 2) (bytes := 40) (by kernel_rfl)
  exact ⟨i, h1, h2, h3, h4⟩

theorem FilesAt.keep {w w' : World} {lo : Nat} {v : Value} {vals : List Value} {fs : List (ByteArray × List Nat)} (h : FilesAt w lo v vals fs) (hk : ∀ k, lo ≤ k → k < w.heap.size → w'.heap[k]? = w.heap[k]?) (hs : w.heap.size ≤ w'.heap.size) : FilesAt w' lo v vals fs :=
  ⟨ownsRow_keep h.own fun g hg => hk g (h.own.lt g hg).1 (h.own.lt g hg).2, h.row.keep8 (fun k cs h1 h2 _ => hk k h1 h2) hs, h.cap⟩

theorem row_at {w : World} {lo : Nat} {t : TypeId} {v : Value} {n : Nat} {vals : List Value} (h : w.ownsRow lo t 1 v n vals) (hn : 0 < n) : ∃ g cap cur, v = .slice (some ⟨g, 0, none⟩) n cap ∧ lo ≤ g ∧ w.heap[g]? = some (.cells cur t (0, 0)) ∧ ∀ i u, i < n → vals[i]? = some u → w.cell? ⟨g, i, none⟩ = some u := by
  rcases h.2 with ⟨h1, h2⟩ | ⟨g, cap, cur, h1, hb, hg, hc, hm, hs, ht⟩
  · omega
  · refine ⟨g, cap, cur, h1, hb, hg, fun i u hi hu => ?_⟩
    rw [cell_of_row _ _ _ _ _ _ hg]
    rw [Nat.mul_one] at ht
    have : (cur.toList.take n)[i]? = some u := by rw [ht]; exact hu
    rw [List.getElem?_take, if_pos hi] at this
    simpa using this

theorem own_low {w : World} {B B' : Nat} {e : TypeId} {sz : Nat} {v : Value} {n : Nat} {xs : List Value} (h : w.ownsRow B e sz v n xs) (hB : B' ≤ B) : w.ownsRow B' e sz v n xs := by
  refine ⟨h.1, ?_⟩
  rcases h.2 with h1 | ⟨g, cap, cur, e1, e2, e3⟩
  · exact .inl h1
  · exact .inr ⟨g, cap, cur, e1, Nat.le_trans hB e2, e3⟩
theorem ob_slice {B : Nat} {w0 wr : World} {bs : List Nat} {v : Value} (h : OB B w0 bs v wr) : ∃ p c, v = .slice p bs.length c := by
  rcases h.own.2 with ⟨e1, e2⟩ | ⟨g, cap, cur, e1, _⟩
  · exact ⟨none, 0, by rw [e1, e2]⟩
  · exact ⟨_, cap, e1⟩

/-- While the files are gone through. -/
structure FlI (B : Nat) (S : DS) (w2 wr : World) (ns : List ByteArray) (vn : Value) (v : Value) (i : Nat) (vals : List Value) : Prop where
  fl : FilesAt wr w2.heap.size v vals (filesOf S (ns.take i))
  bel : Below w2.heap.size w2 wr
  row : wr.ownsRow w2.heap.size 9 1 vn ns.length (ns.map Value.string)

set_option maxRecDepth 100000 in
set_option maxHeartbeats 4000000 in
theorem files_any {B : Nat} {S : DS} (w : World) (h : Dk B w 0 S) (hN : ∀ x ∈ S.L, x.nm.size ≤ maxLen) :
    Calls Tryz.prog 10 #[.pointer (some ⟨S.d, 0, none⟩)] w fun e w' => ∃ (p : Option Addr) (n c : Nat), e = .returned (.slice p n c) ∧ ∃ (vals : List Value) (ns : List ByteArray), (n = ns.length ∧ ns.Perm (S.L.map (·.nm)) ∧ inOrder ns) ∧ FilesAt w' w.heap.size (.slice p n c) vals (filesOf S ns) ∧ Dk B w' 0 S ∧ Fr w (Fp S) w' (Fp S) := by
  have l1 := h.cell 0 (.int .i32 0) rfl
  have l2 := frozen_of h.dk 0
  have HE : Hid (Dk B (w.setCell ⟨S.d, 0, none⟩ (.int .i32 1)) 1 S ∧ Fr w (Fp S) (w.setCell ⟨S.d, 0, none⟩ (.int .i32 1)) (Fp S) ∧ (w.setCell ⟨S.d, 0, none⟩ (.int .i32 1)).heap.size = w.heap.size) := ⟨h.setLock 1, Fr.setCell (.inl rfl) _, by simp [World.setCell]⟩
  have HN := hide hN
  have HCT := hide h.ct
  have HRM := hide h.rm
  clear h hN
  go_enter_defers Tryz.func10, Tryz.ntmps10
  go_upto_block 0 with (first
    | (go_at_call 28; refine (lock_free muLib ⟨S.d, 0, none⟩ _ l1 l2).mono ?_; rintro e w2 ⟨rfl, hw2⟩; have H2 : Hid (Dk B w2 1 S ∧ Fr w (Fp S) w2 (Fp S) ∧ w2.heap.size = w.heap.size) := (by rw [hw2]; exact HE.out); clear hw2 l1 l2 HE)
    | (go_at_call 30; refine (names2_any (H2.out.1.below ((Below.refl _ _).alloc (Nat.le_refl _) _)) HN.out).mono ?_; rintro e w3 ⟨vn, ns, rfl, hp, ho, hrow, hb⟩; have H3 : Hid (ns.Perm (S.L.map (·.nm)) ∧ inOrder ns ∧ w3.ownsRow (w2.alloc (.cells #[] 74)).heap.size 9 1 vn ns.length (ns.map Value.string) ∧ Below (w2.alloc (.cells #[] 74)).heap.size (w2.alloc (.cells #[] 74)) w3) := ⟨hp, ho, hrow, hb⟩; obtain ⟨pn, cn, hvn⟩ : ∃ pn cn, vn = .slice pn ns.length cn := (by rcases hrow.2 with ⟨e1, e2⟩ | ⟨g', cap, cur, e1, _⟩; exact ⟨none, 0, by rw [e1, e2]⟩; exact ⟨_, _, e1⟩); obtain ⟨N, hNN⟩ : ∃ N, ns.length = N := ⟨_, rfl⟩; rw [hNN] at hvn; subst hvn; have HNN := hide hNN; clear hp ho hrow hb hNN))
  have HS0 : Hid (FlI B S w2 w3 ns (.slice pn N cn) (.slice (some ⟨w2.heap.size, 0, none⟩) 0 0) 0 []) := by
    have hb : Below w2.heap.size w2 (w2.alloc (.cells #[] 74)) := (Below.refl _ _).alloc (Nat.le_refl _) _
    have hb3 := hb.trans (H3.out.2.2.2.mono hb.size)
    have hc : w3.heap[w2.heap.size]? = some (.cells #[] 74 (0, 0)) := (H3.out.2.2.2.block _ (by simp)).trans (heap_alloc_new w2 _)
    have hrow := H3.out.2.2.1
    exact ⟨⟨⟨rfl, .inr ⟨w2.heap.size, 0, #[], rfl, Nat.le_refl _, hc, Nat.le_refl _, by unfold maxLen; omega, rfl, rfl⟩⟩, ⟨rfl, fun i v hv => by simp at hv⟩, fun u hu => by simp at hu⟩, hb3, own_low hrow (by simp)⟩
  go_wp2_with fail
  go_loopw [3, 17] (fun t3 t17 wr => ∃ (pv : Option Addr) (cv i : Nat), t3 = .slice pv i cv ∧ t17 = .int .i64 (i : Int) ∧ i ≤ N ∧ Hid (∃ vals, FlI B S w2 wr ns (.slice pn N cn) (.slice pv i cv) i vals)) (fun _ t17 _ => N - (intOf t17).toNat)
  case atStart => exact ⟨_, 0, 0, rfl, rfl, by omega, [], HS0.out⟩
  case round =>
    obtain ⟨pv, cv, i, rfl, rfl, hiN, hI⟩ := hrel
    obtain ⟨vals, hS⟩ := hI.out
    have HS := hide hS
    clear hI hS HS0
    by_cases hi : i < N
    · have hi' : (i : Int) < (N : Int) := by omega
      have HI : Hid (i < ns.length) := by show _ < _; rw [HNN.out]; exact hi
      obtain ⟨x, hx, hxn⟩ : ∃ x ∈ S.L, x.nm = ns[i]'HI.out := by
        have := H3.out.1.subset (List.getElem_mem HI.out)
        obtain ⟨x, hx, e⟩ := List.mem_map.1 this
        exact ⟨x, hx, e⟩
      have HXN := hide hxn
      obtain ⟨gN, kN, curN, hvn, hge, hcurN, hcells⟩ := row_at HS.out.row (Nat.lt_of_le_of_lt (Nat.zero_le _) HI.out)
      simp only [Value.slice.injEq] at hvn
      obtain ⟨rfl, -, -⟩ := hvn
      have hcell : wr.cell? ⟨gN, i, none⟩ = some (.string x.nm) := hcells i _ HI.out (by rw [List.getElem?_map, List.getElem?_eq_getElem HI.out, HXN.out]; rfl)
      have hD := H2.out.1.below HS.out.bel
      have c3 := hD.cell 3 (.map (some S.m)) rfl
      have hlk := hD.look hx
      obtain ⟨px, kx, hvx⟩ := hD.fslice hx
      have cx : wr.cell? ⟨x.f, 0, none⟩ = some (.slice px x.bs.length kx) := by rw [← hvx]; exact hD.fcell hx
      have hxl : x.bs.length ≤ 268435456 := by
        have := Con.tot_upd (con_nodup hD) (con_mem hx) [] 0
        have h4 := HRM.out
        rw [tot_con] at h4
        have e : S.ps.con = S.L.map Fi.con := rfl
        rw [e] at this; simp at this; omega
      have HCL := hide (bclone_any (.slice px x.bs.length kx) x.bs wr (by have ho : OB B wr x.bs x.v wr := ⟨hD.ow x hx, Below.refl _ _, hD.lt⟩; have := ho.by_; rw [hvx] at this; exact this) (by omega))
      obtain ⟨nb, hnb⟩ : ∃ nb, x.bs.length = nb := ⟨_, rfl⟩
      rw [hnb] at cx HCL
      have HNB := hide hnb
      have HB := hide (bytes_of hD hx)
      have HC := hide hcurN
      obtain ⟨iF, hiF⟩ := infoFile
      have Hi := hide hiF
      have hN2 : N ≤ 256 := by have h1 := H3.out.1.length_eq; rw [HNN.out] at h1; simp at h1; have := HCT.out; omega
      clear hxn hD hvx hcells hcurN hnb hiF hxl
      go_wp2_with (first
        | (go_at_call 31; refine HCL.out.mono ?_; rintro e w5 ⟨v5, rfl, hO5⟩; obtain ⟨q5, k5, hv5⟩ := ob_slice hO5; rw [HNB.out] at hv5; subst hv5; have HO5 := hide hO5; clear hO5 HCL)
        | (at_builtin; refine wpList_append_own_at _ rfl _ _ _ rfl w2.heap.size 74 iF (.agg #[.string ByteArray.empty, .slice none 0 0]) 2 40 Tryz.underlying34 Hi.out.1 Hi.out.2.1 Hi.out.2.2.1 Hi.out.2.2.2 rfl (by decide) (.slice pv i cv) i (fcells (filesOf S (ns.take i)) vals) rfl ?f0 ⟨w5.heap.size, 0, none⟩ 1 1 [.string x.nm, .slice q5 nb k5] rfl rfl (World.news_of_block (heap_alloc_new w5 _)) ?f1 ?f4 ?f5 ?f7 ?f6))
      case f0 =>
        have hl : (filesOf S (ns.take i)).length = i := by unfold filesOf; rw [List.length_map, List.length_take, Nat.min_eq_left (Nat.le_of_lt HI.out)]
        have := HS.out.fl.own
        rw [hl] at this
        exact (ownsRow_keep this fun g hg => HO5.out.bel.block g (this.lt g hg).2).alloc _
      case f1 => intro u hu; rcases List.mem_cons.1 hu with rfl | hu; rfl; rw [List.mem_singleton.1 hu]; rfl
      case f4 => unfold maxLen; omega
      case f5 => omega
      case f7 => have h1 := HS.out.bel.size; have h2 := HO5.out.bel.size; simp; omega
      case f6 =>
        intro v6 w6 ho6 hg6 _ hat6
        have hv6 : ∃ p c, v6 = .slice p (i + 1) c := by
          rcases ho6.2 with ⟨_, e2⟩ | ⟨g', cap, cur, e1, _⟩
          · omega
          · exact ⟨_, _, e1⟩
        have H6 : Hid (FlI B S w2 w6 ns (.slice (some ⟨gN, 0, none⟩) N cn) v6 (i + 1) (vals ++ [.slice q5 nb k5])) := by
          have hl : (filesOf S (ns.take i)).length = i := by unfold filesOf; rw [List.length_map, List.length_take, Nat.min_eq_left (Nat.le_of_lt HI.out)]
          have hfm := files_more (n := x.nm) HS.out.bel.size HS.out.fl HO5.out (by rw [hl]; exact ho6) hg6
          have hnx : filesOf S (ns.take (i + 1)) = filesOf S (ns.take i) ++ [(x.nm, x.bs)] := by
            unfold filesOf
            rw [List.take_add_one, List.getElem?_eq_getElem HI.out, List.map_append]
            simp only [Option.toList, List.map_cons, List.map_nil]
            rw [← HXN.out, HB.out]
          refine ⟨by rw [hnx]; exact hfm.1, HS.out.bel.trans hfm.2, ownsRow_keep HS.out.row fun g hg => ?_⟩
          have eg : g = gN := by simpa [Value.ownBlock] using hg.symm
          subst eg
          have hlt := (HS.out.row.lt g hg).2
          have h5 := HO5.out.bel.block g hlt
          refine ((hg6.block g (by have := HO5.out.bel.size; simp; omega) fun e => ?_).trans (Below.heap_alloc _ _ _ (by have := HO5.out.bel.size; omega))).trans h5
          have ho := HS.out.fl.own
          rcases ho.2 with ⟨e1, _⟩ | ⟨g', cap, cur, e1, _, e3, _⟩
          · rw [e1] at e; simp [Value.ownBlock] at e
          · rw [e1] at e; simp [Value.ownBlock] at e; subst e; rw [HC.out] at e3; simp at e3
        obtain ⟨p6, c6, hv6⟩ := hv6
        subst hv6
        clear ho6 hg6 hat6 HO5
        go_wp2_with fail
        go_roundw
        case rel => exact ⟨p6, c6, i + 1, by simp, by simp, by omega, _, H6.out⟩
        case measure => simp [intOf]; omega
    · have hi' : ¬ (i : Int) < (N : Int) := by omega
      have HE : Hid (ns.take i = ns) := by show _ = _; exact List.take_of_length_le (by rw [HNN.out]; omega)
      have HD := hide (H2.out.1.below HS.out.bel)
      go_wp2_with fail
      have HZ := hide (door_of HD.out rfl)
      refine leaves_cons (f := 29) (args := #[.pointer (some ⟨S.d, 0, none⟩)]) (by simp) (by simp [go_sem]) ?_
      refine (unlock_deferred muLib ⟨S.d, 0, none⟩ .returning _ ?_ ?_).mono ?_
      · exact HZ.out.1
      · exact HZ.out.2.1
      rintro e u' w'' ⟨rfl, rfl, rfl⟩
      have hdl : S.d < w2.heap.size := heap_lt H2.out.1.dk
      refine ⟨_, results_tmp rfl _ _ _, pv, i, cv, rfl, vals, ns, ⟨by rw [HNN.out]; omega, H3.out.1, H3.out.2.1⟩, ?_, HZ.out.2.2.1, (H2.out.2.1.trans (Fr.of_below HS.out.bel)).trans HZ.out.2.2.2⟩
      have hf := HS.out.fl
      rw [HE.out, H2.out.2.2] at hf
      exact hf.keep (fun k h1 h2 => Below.heap_setCell _ ⟨S.d, 0, none⟩ _ _ (fun e => by have e' : k = S.d := e; have := H2.out.2.2; omega)) (by simp [World.setCell])

end Go.Proofs.YtlandfghodfjdaaGreat

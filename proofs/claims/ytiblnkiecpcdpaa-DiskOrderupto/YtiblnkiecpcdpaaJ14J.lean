/- The document's copy of files. -/
import Derived.Test.YtiblnkiecpcdpaaJ14I
import Derived.Test.YtiblnkiecpcdpaaJ14G
import Derived.Test.YtiblnkiecpcdpaaJ12M
namespace Go.Proofs.Ytiblnkiecpcdpaa
open Go.RowKit
set_option linter.unusedVariables false
set_option linter.unusedSimpArgs false

/-- A store into a block of one's own, far from the row. -/
theorem set_far {w wa w5 : World} {bs : List Nat} {v u : Value} {a : Addr} {b : Nat} (h : OB wa.heap.size wa bs u w5) (hb : w.heap.size = b) (hba : Below w.heap.size w wa) (h1 : b ≤ a.block) (h2 : a.block < wa.heap.size) : OB w.heap.size w bs u (w5.setCell a v) ∧ (∀ k, u.ownBlock = some k → wa.heap.size ≤ k) := by
  have hf := Fr.setCell (w := w5) (F := fun k => k = a.block) (a := a) rfl v
  refine ⟨⟨own_low (ownsRow_keep h.own fun g hg => (hf.block g (h.own.lt g hg).2 fun e => ?_).2) (by have := hba.size; omega), (hba.trans (h.bel.mono hba.size)).trans (hf.below (fun k e => by rw [e]; omega) ?_), Nat.le_refl _⟩, fun k hk => (h.own.lt k hk).1⟩
  · have := (h.own.lt g hg).1; omega
  · exact Nat.le_trans hba.size h.bel.size

theorem OB.setOther {B : Nat} {w0 w5 : World} {bs : List Nat} {u v : Value} {a : Addr} (h : OB B w0 bs u w5) (hk : ∀ k, u.ownBlock = some k → k ≠ a.block) (hB : B ≤ a.block) : OB B w0 bs u (w5.setCell a v) := by
  have hf := Fr.setCell (w := w5) (F := fun k => k = a.block) (a := a) rfl v
  exact ⟨ownsRow_keep h.own fun g hg => (hf.block g (h.own.lt g hg).2 (hk g hg)).2, h.bel.trans (hf.below (fun k e => by rw [e]; exact hB) (Nat.le_trans h.le h.bel.size)), h.le⟩

set_option maxRecDepth 100000 in
set_option maxHeartbeats 2000000 in
theorem copyFile_any (nm : ByteArray) (pb : Option Addr) (nb cb : Nat) (bs : List Nat) (w : World) (h : IsBy w (.slice pb nb cb) bs) (hl : bs.length ≤ 1000000000) :
    Calls Try.prog 45 #[.agg #[.string nm, .slice pb nb cb]] w fun e w' => ∃ (p : Option Addr) (c : Nat), e = .returned (.agg #[.string nm, .slice p bs.length c]) ∧ OB w.heap.size w bs (.slice p bs.length c) w' := by
  have HC : Hid (∀ W, Below w.heap.size w W → Calls Try.prog 31 #[.slice pb nb cb] W fun e w' => ∃ (p : Option Addr) (c : Nat), e = .returned (.slice p bs.length c) ∧ OB W.heap.size W bs (.slice p bs.length c) w') := fun W hW => by
    refine (copy_any (.slice pb nb cb) bs W (isBy_below h hW) hl).mono ?_
    rintro e w' ⟨v, rfl, hO⟩
    obtain ⟨p, c, rfl⟩ := ob_slice hO
    exact ⟨p, c, rfl, hO⟩
  obtain ⟨n, hn⟩ : ∃ n, bs.length = n := ⟨_, rfl⟩
  rw [hn] at hl HC ⊢
  clear h hn
  go_enter Try.func45, Try.ntmps45
  have hB0 : Below w.heap.size w (((w.alloc (.cells #[.string nm, .slice pb nb cb] 45)).alloc (.cells #[.string ByteArray.empty, .slice none 0 0] 45)).alloc (.cells #[.string nm, .slice pb nb cb] 45)) := (((Below.refl _ _).alloc (Nat.le_refl _) _).alloc (by simp) _).alloc (by simp; omega) _
  go_upto_region 2 with fail
  obtain ⟨wa, hwa⟩ : ∃ wa, (((w.alloc (.cells #[.string nm, .slice pb nb cb] 45)).alloc (.cells #[.string { data := #[] }, .slice none 0 0] 45)).alloc (.cells #[.string nm, .slice pb nb cb] 45)) = wa := ⟨_, rfl⟩
  have HBA : Hid (Below w.heap.size w wa) := by rw [← hwa]; exact hB0
  have HR3 : Hid (wa.heap[w.heap.size + 1 + 1]? = some (.cells #[.string nm, .slice pb nb cb] 45 (0, 0))) := by
    rw [← hwa]
    have := heap_alloc_new ((w.alloc (.cells #[.string nm, .slice pb nb cb] 45)).alloc (.cells #[.string { data := #[] }, .slice none 0 0] 45)) (.cells #[.string nm, .slice pb nb cb] 45)
    have h2 : ((w.alloc (.cells #[.string nm, .slice pb nb cb] 45)).alloc (.cells #[.string { data := #[] }, .slice none 0 0] 45)).heap.size = w.heap.size + 1 + 1 := by simp
    rw [h2] at this
    exact this
  have HR2 : Hid (wa.heap[w.heap.size + 1]? = some (.cells #[.string { data := #[] }, .slice none 0 0] 45 (0, 0))) := by
    rw [← hwa]
    have := heap_alloc_new (w.alloc (.cells #[.string nm, .slice pb nb cb] 45)) (.cells #[.string { data := #[] }, .slice none 0 0] 45)
    have h2 : (w.alloc (.cells #[.string nm, .slice pb nb cb] 45)).heap.size = w.heap.size + 1 := by simp
    rw [h2] at this
    exact new_kept this _
  have HR1 : Hid (wa.heap[w.heap.size]? = some (.cells #[.string nm, .slice pb nb cb] 45 (0, 0))) := by
    rw [← hwa]
    exact new_kept (new_kept (heap_alloc_new w _) _) _
  rw [hwa]
  have y1 : wa.cell? ⟨w.heap.size, 1, none⟩ = some (.slice pb nb cb) := cell_of_row _ _ _ _ _ _ HR1.out
  have HL := hide (heap_lt HR3.out)
  have HCC := hide (HC.out wa HBA.out)
  obtain ⟨b, hb⟩ : ∃ b, w.heap.size = b := ⟨_, rfl⟩
  have HBB := hide hb
  rw [hb] at HR1 HR2 HR3 y1 HL ⊢
  clear hwa hB0 HC hb
  go_upto_region 3 with (go_at_call 31; refine HCC.out.mono ?_; rintro e w5 ⟨p5, c5, rfl, hO⟩; have HO := hide hO; have x0 : w5.cell? ⟨b + 1 + 1, 0, none⟩ = some (.string nm) := (hO.bel.cell (p := ⟨b + 1 + 1, 0, none⟩) HL.out).trans (cell_of_row _ _ _ _ _ _ HR3.out); have x1 : w5.cell? ⟨b + 1 + 1, 1, none⟩ = some (.slice pb nb cb) := (hO.bel.cell (p := ⟨b + 1 + 1, 1, none⟩) HL.out).trans (cell_of_row _ _ _ _ _ _ HR3.out); have fz : w5.frozen? ⟨b + 1 + 1, 1, none⟩ = false := frozen_of ((hO.bel.block _ HL.out).trans HR3.out) 1; clear hO HCC)
  have HS := hide (set_far (a := ⟨b + 1 + 1, 1, none⟩) (v := .slice p5 n c5) HO.out HBB.out HBA.out (by show b ≤ b + 1 + 1; omega) HL.out)
  have HW6 : Hid ((w5.setCell ⟨b + 1 + 1, 1, none⟩ (.slice p5 n c5)).heap[b + 1 + 1]? = some (.cells #[.string nm, .slice p5 n c5] 45 (0, 0))) := heap_set_at ((HO.out.bel.block _ HL.out).trans HR3.out) _
  have HV6 : Hid ((w5.setCell ⟨b + 1 + 1, 1, none⟩ (.slice p5 n c5)).heap[b + 1]? = some (.cells #[.string { data := #[] }, .slice none 0 0] 45 (0, 0))) := by
    refine ((Fr.setCell (w := w5) (F := fun k => k = b + 1 + 1) (a := ⟨b + 1 + 1, 1, none⟩) rfl (.slice p5 n c5)).block (b + 1) ?_ (by show ¬ b + 1 = b + 1 + 1; omega)).2.trans ((HO.out.bel.block _ ?_).trans HR2.out)
    · have := HO.out.bel.size; have := HL.out; omega
    · have := HL.out; omega
  obtain ⟨w6, hw6⟩ : ∃ w6, w5.setCell ⟨b + 1 + 1, 1, none⟩ (.slice p5 n c5) = w6 := ⟨_, rfl⟩
  rw [hw6] at HS HW6 HV6 ⊢
  clear hw6 x0 x1 fz HO
  have z0 : w6.cell? ⟨b + 1 + 1, 0, none⟩ = some (.string nm) := cell_of_row _ _ _ _ _ _ HW6.out
  have z1 : w6.cell? ⟨b + 1 + 1, 1, none⟩ = some (.slice p5 n c5) := cell_of_row _ _ _ _ _ _ HW6.out
  have v0 : w6.cell? ⟨b + 1, 0, none⟩ = some (.string { data := #[] }) := cell_of_row _ _ _ _ _ _ HV6.out
  have v1 : w6.cell? ⟨b + 1, 1, none⟩ = some (.slice none 0 0) := cell_of_row _ _ _ _ _ _ HV6.out
  have f0 := frozen_of HV6.out 0
  have f1 := frozen_of HV6.out 1
  go_wp2_with fail
  have HW7 : Hid (((w6.setCell ⟨b + 1, 0, none⟩ (.string nm)).setCell ⟨b + 1, 1, none⟩ (.slice p5 n c5)).heap[b + 1]? = some (.cells #[.string nm, .slice p5 n c5] 45 (0, 0))) := by
    have h1 := heap_set_at (i := 0) HV6.out (.string nm)
    exact heap_set_at h1 _
  have hne : ∀ k, (Value.slice p5 n c5).ownBlock = some k → k ≠ b + 1 := fun k hk e => by have := HS.out.2 k hk; have := HL.out; omega
  have HO7 := hide ((HS.out.1.setOther (a := ⟨b + 1, 0, none⟩) (v := .string nm) hne (by rw [HBB.out]; show b ≤ b + 1; omega)).setOther (a := ⟨b + 1, 1, none⟩) (v := .slice p5 n c5) hne (by rw [HBB.out]; show b ≤ b + 1; omega))
  obtain ⟨w7, hw7⟩ : ∃ w7, (w6.setCell ⟨b + 1, 0, none⟩ (.string nm)).setCell ⟨b + 1, 1, none⟩ (.slice p5 n c5) = w7 := ⟨_, rfl⟩
  rw [hw7] at HW7 HO7 ⊢
  have u0 : w7.cell? ⟨b + 1, 0, none⟩ = some (.string nm) := cell_of_row _ _ _ _ _ _ HW7.out
  have u1 : w7.cell? ⟨b + 1, 1, none⟩ = some (.slice p5 n c5) := cell_of_row _ _ _ _ _ _ HW7.out
  exact bodyPost_ret (v := .agg #[.string nm, .slice p5 n c5]) (by simp [results, Try.results45, go_sem, u0, u1]) rfl ⟨p5, c5, rfl, HO7.out⟩

/-- A slice that begins where its block does. -/
def Off0 (u : Value) : Prop := ∃ (p : Option Addr) (l c : Nat), u = .slice p l c ∧ ∀ a, p = some a → a = ⟨a.block, 0, none⟩
theorem Off0.of_own {w : World} {B : Nat} {t : TypeId} {sz : Nat} {u : Value} {n : Nat} {xs : List Value} (h : w.ownsRow B t sz u n xs) : Off0 u := by
  rcases h.2 with ⟨e1, _⟩ | ⟨g', cap, cur, e1, _⟩
  · exact ⟨none, 0, 0, e1, fun a e => by simp at e⟩
  · exact ⟨_, n, cap, e1, fun a e => by simp at e; rw [← e]⟩

/-- While files are copied. -/
structure CpI (w wr : World) (v : Value) (k : Nat) (vals : List Value) (fs : List (ByteArray × List Nat)) : Prop where
  fl : FilesAt wr w.heap.size v vals (fs.take k)
  bel : Below w.heap.size w wr
  off : ∀ u ∈ vals, Off0 u

set_option maxRecDepth 100000 in
set_option maxHeartbeats 4000000 in
theorem copyFiles_any (v : Value) (vals : List Value) (fs : List (ByteArray × List Nat)) (w : World) (hR : FilesR w v vals fs) (hf : FilesBy w vals fs) (hl : fs.length ≤ 400) (ht : ∀ x ∈ fs, x.2.length ≤ 1000000) :
    Calls Try.prog 18 #[v] w fun e w' => ∃ (p : Option Addr) (c : Nat), e = .returned (.slice p fs.length c) ∧ ∃ us, (FilesAt w' w.heap.size (.slice p fs.length c) us fs ∧ ∀ u ∈ us, Off0 u) ∧ Below w.heap.size w w' := by
  obtain ⟨n, hn⟩ : ∃ n, fs.length = n := ⟨_, rfl⟩
  obtain ⟨hv, pv, cv, rfl, hc⟩ := hR
  have HC := hide hc
  have HN := hide hn
  have HFS := hide hf
  have HT := hide ht
  rw [hn] at hl ⊢
  obtain ⟨iF, hiF⟩ := infoFile
  have Hi := hide hiF
  clear hv hc hn hf ht hiF
  go_enter Try.func18, Try.ntmps18
  go_wp2_with fail
  go_loopw [3, 4] (fun t3 t4 wr => ∃ (pq : Option Addr) (cq k : Nat), t3 = .slice pq k cq ∧ t4 = .int .i64 (k : Int) ∧ k ≤ n ∧ Hid (∃ us, CpI w wr (.slice pq k cq) k us fs)) (fun _ t4 _ => n - (intOf t4).toNat)
  case atStart => exact ⟨none, 0, 0, rfl, rfl, Nat.zero_le _, [], ⟨World.ownsRow_nil _ _ _ _, ⟨rfl, fun i v hv => by simp at hv⟩, fun u hu => by simp at hu⟩, Below.refl _ _, fun u hu => by simp at hu⟩
  case round =>
    obtain ⟨pq, cq, k, rfl, rfl, hk, HI⟩ := hrel
    obtain ⟨us, hI⟩ := HI.out
    have HI := hide hI
    clear hI
    by_cases hlt : k < n
    · have hlt' : (k : Int) < (n : Int) := by omega
      have HK : Hid (k < fs.length) := by show _ < _; rw [HN.out]; exact hlt
      obtain ⟨hsz, pb, nb, cb, hvk, hn47, hncb, hpc, hib, hnb, hb256⟩ := HFS.out k HK.out
      obtain ⟨g, o, rfl, k1, k2⟩ := HC.out k HK.out
      rw [hvk] at k2
      obtain ⟨x, hx⟩ : ∃ x, fs.getD k (.empty, []) = x := ⟨_, rfl⟩
      have hxl : x.2.length ≤ 1000000 := HT.out x (by rw [← hx]; simp [List.getD, List.getElem?_eq_getElem HK.out])
      have HX : Hid (fs.take (k + 1) = fs.take k ++ [x]) := by
        show _ = _
        rw [List.take_add_one, List.getElem?_eq_getElem HK.out, ← hx]
        simp [List.getD, List.getElem?_eq_getElem HK.out]
      rw [hx] at hsz k1 hib hnb hb256
      obtain ⟨nm, bs⟩ := x
      have c1 : wr.cell? ⟨g, o + k * 2, none⟩ = some (.string nm) := (HI.out.bel.cell (p := ⟨g, o + k * 2, none⟩) (World.block_lt_of_cell? _ _ k1)).trans k1
      have c2 : wr.cell? ⟨g, o + k * 2 + 1, none⟩ = some (.slice pb nb cb) := (HI.out.bel.cell (p := ⟨g, o + k * 2 + 1, none⟩) (World.block_lt_of_cell? _ _ k2)).trans k2
      have HCF := hide (copyFile_any nm pb nb cb bs wr (isBy_below hib HI.out.bel) (by show bs.length ≤ _; have : bs.length ≤ 1000000 := hxl; omega))
      have HKL : Hid ((fs.take k).length = k) := by show _ = _; rw [List.length_take]; have := HK.out; omega
      obtain ⟨m, hm⟩ : ∃ m, bs.length = m := ⟨_, rfl⟩
      rw [hm] at HCF
      have HM := hide hm
      clear hvk k1 k2 hib hnb hb256 hx hncb hpc hn47 hsz hxl hm
      go_wp2_with (first
        | (go_at_call 45; refine HCF.out.mono ?_; rintro e w5 ⟨p5, c5, rfl, hO⟩; have HO := hide hO; clear hO HCF)
        | (at_builtin; refine wpList_append_own_at _ rfl _ _ _ rfl w.heap.size 45 iF (.agg #[.string ByteArray.empty, .slice none 0 0]) 2 40 Try.underlying33 Hi.out.1 Hi.out.2.1 Hi.out.2.2.1 Hi.out.2.2.2 rfl (by decide) (.slice pq k cq) k (fcells (fs.take k) us) rfl ?f0 ⟨w5.heap.size, 0, none⟩ 1 1 [.string nm, .slice p5 m c5] rfl rfl (World.news_of_block (heap_alloc_new w5 _)) ?f1 ?f4 ?f5 ?f7 ?f6))
      case f0 =>
        have := HI.out.fl.own
        rw [HKL.out] at this
        exact (ownsRow_keep this fun g hg => HO.out.bel.block g (this.lt g hg).2).alloc _
      case f1 => first | exact ⟨rfl, rfl⟩ | (intro u hu; rcases List.mem_cons.1 hu with rfl | hu; rfl; rw [List.mem_singleton.1 hu]; rfl)
      case f4 => unfold maxLen; omega
      case f5 => omega
      case f7 => have h1 := HI.out.bel.size; have h2 := HO.out.bel.size; simp; omega
      case f6 =>
        intro v6 w6 ho6 hg6 _ hat6
        have hv6 : ∃ p c, v6 = .slice p (k + 1) c := by
          rcases ho6.2 with ⟨_, e2⟩ | ⟨g', cap, cur, e1, _⟩
          · omega
          · exact ⟨_, _, e1⟩
        have H6 : Hid (CpI w w6 v6 (k + 1) (us ++ [.slice p5 m c5]) fs) := by
          have hfm := files_more (n := nm) HI.out.bel.size HI.out.fl HO.out (by rw [HKL.out]; exact ho6) hg6
          refine ⟨by rw [HX.out]; exact hfm.1, HI.out.bel.trans hfm.2, fun u hu => ?_⟩
          rcases List.mem_append.1 hu with hu | hu
          · exact HI.out.off u hu
          · rw [List.mem_singleton.1 hu]; exact Off0.of_own HO.out.own
        obtain ⟨p6, c6, hv6⟩ := hv6
        subst hv6
        clear ho6 hg6 hat6
        go_wp2_with fail
        go_roundw
        case rel => exact ⟨p6, c6, k + 1, by simp, by simp, by omega, _, H6.out⟩
        case measure => simp [intOf]; omega
    · have hlt' : ¬ (k : Int) < (n : Int) := by omega
      have HTK : Hid (fs.take k = fs) := by show _ = _; rw [List.take_of_length_le (by rw [HN.out]; omega)]
      have hkn : k = n := by omega
      subst hkn
      go_wp2_with fail
      go_ret
      have hs := HI.out.fl
      rw [HTK.out] at hs
      exact ⟨pq, cq, rfl, ⟨us, hs, HI.out.off⟩, HI.out.bel⟩

end Go.Proofs.Ytiblnkiecpcdpaa

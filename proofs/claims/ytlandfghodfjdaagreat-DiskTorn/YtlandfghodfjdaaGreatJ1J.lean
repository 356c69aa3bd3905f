/- The other methods of a disk: what they tell, what they leave. -/
import Derived.Test.YtlandfghodfjdaaGreatJ1H
import Derived.Lib.SliceRun
/- Append: the whole of it. -/
namespace Go.Proofs.YtlandfghodfjdaaGreat
open Go.RowKit
open Go.MuLone (lock_free unlock_deferred run_callFunc_enter)
set_option linter.unusedVariables false
set_option linter.unusedSimpArgs false

/-- A disk whose lock is held, as the door asks it. -/
theorem door_of {B : Nat} {w : World} {S' : DS} {d : Nat} (h : Dk B w 1 S') (hd : S'.d = d) : w.cell? ⟨d, 0, none⟩ = some (.int .i32 1) ∧ w.frozen? ⟨d, 0, none⟩ = false ∧ Dk B (w.setCell ⟨d, 0, none⟩ (.int .i32 0)) 0 S' ∧ Fr w (Fp S') (w.setCell ⟨d, 0, none⟩ (.int .i32 0)) (Fp S') := by
  subst hd
  exact ⟨h.cell 0 _ rfl, frozen_of h.dk 0, h.setLock 0, Fr.setCell (.inl rfl) _⟩

theorem Fr.isBy {w w' : World} {F F' : Nat → Prop} (h : Fr w F w' F') {v : Value} {bs : List Nat} (hn : ∀ k, v.ownBlock = some k → ¬ F k) (hb : IsBy w v bs) : IsBy w' v bs := by
  rcases hb with (h1 | ⟨g, o, cap, h1, h2⟩) | h1
  · exact .inl (.inl h1)
  · refine .inl (.inr ⟨g, o, cap, h1, fun i hi => h.cell (a := ⟨g, o + i, none⟩) (hn g ?_) (h2 i hi)⟩)
    rw [h1]; rfl
  · exact .inr h1

theorem enter_append {B : Nat} {S : DS} {w : World} (h : Dk B w 0 S) (nm : ByteArray) (p : Option Addr) (n cb : Nat) (bs : List Nat) (hb : IsBy w (.slice p n cb) bs) (hfb : ∀ k, (Value.slice p n cb).ownBlock = some k → ¬ Fp S k) :
    (((w.alloc (.cells #[.pointer (some ⟨S.d, 0, none⟩)] 27)).alloc (.cells #[.string nm] 9)).alloc (.cells #[.slice p n cb] 33)).cell? ⟨S.d, 0, none⟩ = some (.int .i32 0) ∧ (((w.alloc (.cells #[.pointer (some ⟨S.d, 0, none⟩)] 27)).alloc (.cells #[.string nm] 9)).alloc (.cells #[.slice p n cb] 33)).frozen? ⟨S.d, 0, none⟩ = false ∧ (Dk B ((((w.alloc (.cells #[.pointer (some ⟨S.d, 0, none⟩)] 27)).alloc (.cells #[.string nm] 9)).alloc (.cells #[.slice p n cb] 33)).setCell ⟨S.d, 0, none⟩ (.int .i32 1)) 1 S ∧ Fr w (Fp S) ((((w.alloc (.cells #[.pointer (some ⟨S.d, 0, none⟩)] 27)).alloc (.cells #[.string nm] 9)).alloc (.cells #[.slice p n cb] 33)).setCell ⟨S.d, 0, none⟩ (.int .i32 1)) (Fp S) ∧ IsBy ((((w.alloc (.cells #[.pointer (some ⟨S.d, 0, none⟩)] 27)).alloc (.cells #[.string nm] 9)).alloc (.cells #[.slice p n cb] 33)).setCell ⟨S.d, 0, none⟩ (.int .i32 1)) (.slice p n cb) bs ∧ (((((w.alloc (.cells #[.pointer (some ⟨S.d, 0, none⟩)] 27)).alloc (.cells #[.string nm] 9)).alloc (.cells #[.slice p n cb] 33)).setCell ⟨S.d, 0, none⟩ (.int .i32 1)).cell? ⟨w.heap.size, 0, none⟩ = some (.pointer (some ⟨S.d, 0, none⟩)) ∧ ((((w.alloc (.cells #[.pointer (some ⟨S.d, 0, none⟩)] 27)).alloc (.cells #[.string nm] 9)).alloc (.cells #[.slice p n cb] 33)).setCell ⟨S.d, 0, none⟩ (.int .i32 1)).cell? ⟨w.heap.size + 1, 0, none⟩ = some (.string nm) ∧ ((((w.alloc (.cells #[.pointer (some ⟨S.d, 0, none⟩)] 27)).alloc (.cells #[.string nm] 9)).alloc (.cells #[.slice p n cb] 33)).setCell ⟨S.d, 0, none⟩ (.int .i32 1)).cell? ⟨w.heap.size + 2, 0, none⟩ = some (.slice p n cb))) := by
  have hb1 : Below w.heap.size w (((w.alloc (.cells #[.pointer (some ⟨S.d, 0, none⟩)] 27)).alloc (.cells #[.string nm] 9)).alloc (.cells #[.slice p n cb] 33)) := (((Below.refl _ _).alloc (Nat.le_refl _) _).alloc (by simp) _).alloc (by simp; omega) _
  have h1 := h.below hb1
  have hf1 : Fr w (Fp S) ((((w.alloc (.cells #[.pointer (some ⟨S.d, 0, none⟩)] 27)).alloc (.cells #[.string nm] 9)).alloc (.cells #[.slice p n cb] 33)).setCell ⟨S.d, 0, none⟩ (.int .i32 1)) (Fp S) := (Fr.of_below hb1).trans (Fr.setCell (.inl rfl) _)
  have hd := heap_lt h.dk
  have a1 : (((w.alloc (.cells #[.pointer (some ⟨S.d, 0, none⟩)] 27)).alloc (.cells #[.string nm] 9)).alloc (.cells #[.slice p n cb] 33)).heap[w.heap.size]? = some (.cells #[.pointer (some ⟨S.d, 0, none⟩)] 27 (0, 0)) := new_kept (new_kept (heap_alloc_new w _) _) _
  have a2 : (((w.alloc (.cells #[.pointer (some ⟨S.d, 0, none⟩)] 27)).alloc (.cells #[.string nm] 9)).alloc (.cells #[.slice p n cb] 33)).heap[w.heap.size + 1]? = some (.cells #[.string nm] 9 (0, 0)) := new_kept (by have := heap_alloc_new (w.alloc (.cells #[.pointer (some ⟨S.d, 0, none⟩)] 27)) (.cells #[.string nm] 9); simpa using this) _
  have a3 : (((w.alloc (.cells #[.pointer (some ⟨S.d, 0, none⟩)] 27)).alloc (.cells #[.string nm] 9)).alloc (.cells #[.slice p n cb] 33)).heap[w.heap.size + 2]? = some (.cells #[.slice p n cb] 33 (0, 0)) := by have := heap_alloc_new ((w.alloc (.cells #[.pointer (some ⟨S.d, 0, none⟩)] 27)).alloc (.cells #[.string nm] 9)) (.cells #[.slice p n cb] 33); simpa using this
  refine ⟨h1.cell 0 _ rfl, frozen_of h1.dk 0, h1.setLock 1, hf1, hf1.isBy hfb hb, ?_, ?_, ?_⟩
  · rw [World.cell?_setCell_other _ _ _ _ (fun e => by injection e; omega), cell_of_row _ _ _ _ _ _ a1]; rfl
  · rw [World.cell?_setCell_other _ _ _ _ (fun e => by injection e; omega), cell_of_row _ _ _ _ _ _ a2]; rfl
  · rw [World.cell?_setCell_other _ _ _ _ (fun e => by injection e; omega), cell_of_row _ _ _ _ _ _ a3]; rfl

theorem st_below {B : Nat} {S : DS} {w w2 w3 : World} {lk : Int} {nm : ByteArray} {p : Option Addr} {n cb : Nat} {bs : List Nat} (h : Dk B w2 lk S ∧ Fr w (Fp S) w2 (Fp S) ∧ IsBy w2 (.slice p n cb) bs ∧ (w2.cell? ⟨w.heap.size, 0, none⟩ = some (.pointer (some ⟨S.d, 0, none⟩)) ∧ w2.cell? ⟨w.heap.size + 1, 0, none⟩ = some (.string nm) ∧ w2.cell? ⟨w.heap.size + 2, 0, none⟩ = some (.slice p n cb))) (hb : Below w2.heap.size w2 w3) : Dk B w3 lk S ∧ Fr w (Fp S) w3 (Fp S) ∧ IsBy w3 (.slice p n cb) bs ∧ (w3.cell? ⟨w.heap.size, 0, none⟩ = some (.pointer (some ⟨S.d, 0, none⟩)) ∧ w3.cell? ⟨w.heap.size + 1, 0, none⟩ = some (.string nm) ∧ w3.cell? ⟨w.heap.size + 2, 0, none⟩ = some (.slice p n cb)) :=
  ⟨h.1.below hb, h.2.1.trans (Fr.of_below hb), isBy_below h.2.2.1 hb, by rw [hb.cell (p := ⟨w.heap.size, 0, none⟩) (World.block_lt_of_cell? _ _ h.2.2.2.1)]; exact h.2.2.2.1, by rw [hb.cell (p := ⟨w.heap.size + 1, 0, none⟩) (World.block_lt_of_cell? _ _ h.2.2.2.2.1)]; exact h.2.2.2.2.1, by rw [hb.cell (p := ⟨w.heap.size + 2, 0, none⟩) (World.block_lt_of_cell? _ _ h.2.2.2.2.2)]; exact h.2.2.2.2.2⟩

theorem fp_new {B : Nat} {S : DS} {w : World} {lk : Int} (h : Dk B w lk S) (k : Nat) (hk : w.heap.size ≤ k) : ¬ Fp S k := fun e => by have := h.fpLt k e; omega

/-- Append of bytes that have room, by a disk that is on and not armed. -/
theorem append_ok {B : Nat} {S : DS} (w : World) (h : Dk B w 0 S) (hoff : S.off = false) (harm : S.ain = 0) (hwr : S.wr ≤ 1000000000) (nm : ByteArray) (hs : okN nm) (hc : (∃ x ∈ S.L, x.nm = nm) ∨ ((∀ x ∈ S.L, x.nm ≠ nm) ∧ S.L.length < 256)) (p : Option Addr) (n cb : Nat) (bs : List Nat) (hnb : n = bs.length) (hnc : n ≤ cb) (hp : p = none → cb = 0) (hb : IsBy w (.slice p n cb) bs) (hfb : ∀ k, (Value.slice p n cb).ownBlock = some k → ¬ Fp S k) (hbb : ∀ n ∈ bs, n < 256) (hr : tot S.L + bs.length ≤ S.room) :
    Calls Tryz.prog 24 #[.pointer (some ⟨S.d, 0, none⟩), .string nm, .slice p n cb] w fun e w' => e = .returned (.int .i64 0) ∧ ∃ S' : DS, S'.d = S.d ∧ S'.ps = { S.ps with con := Con.app S.ps.con nm bs, wr := S.ps.wr + 1 } ∧ Dk B w' 0 S' ∧ Fr w (Fp S) w' (Fp S') := by
  have hmf : ∀ (fn : Fn) (first cap : Array Value) (w : World), (Instr.makeFunc fn first cap).run Tryz.prog w = .ok (.func fn first cap) w := fun _ _ _ _ => rfl
  have HE := hide (enter_append h nm p n cb bs hb hfb)
  have HS := hide hs
  have HC := hide hc
  have HW : Hid (∀ w4, (Dk B w4 1 S ∧ Fr w (Fp S) w4 (Fp S) ∧ IsBy w4 (.slice p n cb) bs ∧ (w4.cell? ⟨w.heap.size, 0, none⟩ = some (.pointer (some ⟨S.d, 0, none⟩)) ∧ w4.cell? ⟨w.heap.size + 1, 0, none⟩ = some (.string nm) ∧ w4.cell? ⟨w.heap.size + 2, 0, none⟩ = some (.slice p n cb))) → Calls Tryz.prog 49 #[.pointer (some ⟨S.d, 0, none⟩), .func (.func 50) #[] #[.pointer (some ⟨w.heap.size, 0, none⟩), .pointer (some ⟨w.heap.size + 1, 0, none⟩), .pointer (some ⟨w.heap.size + 2, 0, none⟩)]] w4 fun e w' => e = .returned (.int .i64 0) ∧ ∃ S' : DS, S'.d = S.d ∧ S'.ps = { S.ps with con := Con.app S.ps.con nm bs, wr := S.ps.wr + 1 } ∧ Dk B w' 1 S' ∧ Fr w (Fp S) w' (Fp S')) := fun w4 H4 => by
    refine write_ok w4 H4.1 harm hwr _ _ _ (fun args w => run_callFunc_enter Tryz.func50 (by kernel_rfl) rfl args w) ?_
    have h5 := H4.1.setWr (S.wr + 1)
    have hf5 : Fr w4 (Fp S) (w4.setCell ⟨S.d, 8, none⟩ (.int .i64 ((S.wr : Int) + 1))) (Fp S) := Fr.setCell (.inl rfl) _
    have hn := fun k (hk : w.heap.size ≤ k) => fp_new h k hk
    refine (appendC_any (S := { S with wr := S.wr + 1 }) (w4.setCell ⟨S.d, 8, none⟩ (.int .i64 ((S.wr : Int) + 1))) h5 nm (by have := hs.2.1; omega) hc p n cb bs hnb (by have := h.rm; omega) hnc hp (hf5.isBy hfb H4.2.2.1) hbb hr w.heap.size (w.heap.size + 1) (w.heap.size + 2) (hn _ (Nat.le_refl _)) (hn _ (by omega)) (hn _ (by omega)) (hf5.cell (hn _ (Nat.le_refl _)) H4.2.2.2.1) (hf5.cell (a := ⟨w.heap.size + 1, 0, none⟩) (hn (w.heap.size + 1) (by omega)) H4.2.2.2.2.1) (hf5.cell (a := ⟨w.heap.size + 2, 0, none⟩) (hn (w.heap.size + 2) (by omega)) H4.2.2.2.2.2)).mono ?_
    rintro e w' ⟨rfl, S', e1, e2, e3, e4⟩
    exact ⟨rfl, S', e1, e2, e3, H4.2.1.trans (hf5.trans e4)⟩
  have HFT : Hid (∀ w3, Dk B w3 1 S → Calls Tryz.prog 44 #[.pointer (some ⟨S.d, 0, none⟩), .string nm, .int .i64 (n : Int)] w3 fun e w' => e = .returned (.bool true) ∧ Below w3.heap.size w3 w') := fun w3 h3 => fits_ok w3 h3 nm n hc (by omega)
  have l1 := HE.out.1
  have l2 := HE.out.2.1
  clear h hs hb hbb hr hc hnb hp hnc hfb
  go_enter_defers Tryz.func24, Tryz.ntmps24
  go_wp2_with (first
    | (go_at_call 28; refine (lock_free muLib ⟨S.d, 0, none⟩ _ l1 l2).mono ?_; rintro e w2 ⟨rfl, hw2⟩; have H2 : Hid (Dk B w2 1 S ∧ Fr w (Fp S) w2 (Fp S) ∧ IsBy w2 (.slice p n cb) bs ∧ (w2.cell? ⟨w.heap.size, 0, none⟩ = some (.pointer (some ⟨S.d, 0, none⟩)) ∧ w2.cell? ⟨w.heap.size + 1, 0, none⟩ = some (.string nm) ∧ w2.cell? ⟨w.heap.size + 2, 0, none⟩ = some (.slice p n cb))) := (by rw [hw2]; exact HE.out.2.2); obtain ⟨_, _, _, b1, b2, b3⟩ := H2.out; clear hw2 l1 l2)
    | (go_at_call 48; refine (refusal_ok _ (H2.out.1.below ((Below.refl _ _).alloc (Nat.le_refl _) _)) hoff nm HS.out _ (by simp)).mono ?_; rintro e w3 ⟨rfl, hw3⟩; have H3 : Hid (Dk B w3 1 S ∧ Fr w (Fp S) w3 (Fp S) ∧ IsBy w3 (.slice p n cb) bs ∧ (w3.cell? ⟨w.heap.size, 0, none⟩ = some (.pointer (some ⟨S.d, 0, none⟩)) ∧ w3.cell? ⟨w.heap.size + 1, 0, none⟩ = some (.string nm) ∧ w3.cell? ⟨w.heap.size + 2, 0, none⟩ = some (.slice p n cb))) := (by rw [hw3]; exact st_below H2.out ((Below.refl _ _).alloc (Nat.le_refl _) _)); obtain ⟨_, _, _, b4, b5, b6⟩ := H3.out; clear hw3)
    | (go_at_call 44; refine (HFT.out _ H3.out.1).mono ?_; rintro e w4 ⟨rfl, hB4⟩; have H4 : Hid (Dk B w4 1 S ∧ Fr w (Fp S) w4 (Fp S) ∧ IsBy w4 (.slice p n cb) bs ∧ (w4.cell? ⟨w.heap.size, 0, none⟩ = some (.pointer (some ⟨S.d, 0, none⟩)) ∧ w4.cell? ⟨w.heap.size + 1, 0, none⟩ = some (.string nm) ∧ w4.cell? ⟨w.heap.size + 2, 0, none⟩ = some (.slice p n cb))) := st_below H3.out hB4; obtain ⟨_, _, _, b7, b8, b9⟩ := H4.out; clear hB4)
    | (go_at_call 49; refine (HW.out _ H4.out).mono ?_; rintro e w5 ⟨rfl, hR⟩; have H5 := hide hR; clear hR))
  obtain ⟨S5, e1, e2, e3, e4⟩ := H5.out
  have HZ := hide (door_of e3 e1)
  refine leaves_cons (f := 29) (args := #[.pointer (some ⟨S.d, 0, none⟩)]) (by simp) (by simp [go_sem]) ?_
  refine (unlock_deferred muLib ⟨S.d, 0, none⟩ .returning _ ?_ ?_).mono ?_
  · exact HZ.out.1
  · exact HZ.out.2.1
  rintro e u' w'' ⟨rfl, rfl, rfl⟩
  exact ⟨_, results_tmp rfl _ _ _, rfl, S5, e1, e2, HZ.out.2.2.1, e4.trans HZ.out.2.2.2⟩

end Go.Proofs.YtlandfghodfjdaaGreat

namespace Go.Proofs.YtlandfghodfjdaaGreat
open Go.RowKit
open Go.MuLone (lock_free unlock_deferred run_callFunc_enter)
set_option linter.unusedVariables false
set_option linter.unusedSimpArgs false

set_option maxRecDepth 100000 in
theorem bclone_any (v : Value) (bs : List Nat) (w : World) (h : IsBy w v bs) (hl : bs.length ≤ 1000000000) :
    Calls Tryz.prog 31 #[v] w fun e w' => ∃ v2, e = .returned v2 ∧ OB w.heap.size w bs v2 w' := by
  obtain ⟨i5, hi5⟩ := info5
  have Hi := hide hi5
  clear hi5
  rcases by_news h with ⟨rfl, rfl⟩ | ⟨ad, cap, rfl, hnews⟩
  · clear h
    have hnl := fun w => Lib.run_eql_slice_nil (P := Tryz.prog) w 33 5 none 0 0 0 0 Tryz.underlying33
    go_enter Tryz.func31, Tryz.ntmps31
    go_wp2
    go_ret
    exact ⟨_, rfl, OB.nil w⟩
  · have HN : Hid (∀ j u, (bytesV bs)[j]? = some u → (w.alloc (.cells #[] 5)).cell? (ad.add j) = some u) := fun j u hj => by
      have := hnews j u hj
      rw [Below.cell ((Below.refl w.heap.size w).alloc (Nat.le_refl _) (.cells #[] 5)) (p := ad.add j) (World.block_lt_of_cell? _ _ this)]
      exact this
    have HO : Hid ((w.alloc (.cells #[] 5)).ownsRow w.heap.size 5 1 (.slice (some ⟨w.heap.size, 0, none⟩) 0 0) 0 []) := ⟨rfl, .inr ⟨w.heap.size, 0, #[], rfl, Nat.le_refl _, heap_alloc_new w _, Nat.le_refl _, by unfold maxLen; omega, rfl, rfl⟩⟩
    obtain ⟨n, hn⟩ : ∃ n, bs.length = n := ⟨_, rfl⟩
    rw [hn] at hl ⊢
    have Hn := hide hn
    clear hn h hnews
    have hnl := fun w => Lib.run_eql_slice_nil (P := Tryz.prog) w 33 5 (some ad) n cap 0 0 Tryz.underlying33
    go_enter Tryz.func31, Tryz.ntmps31
    go_wp2_with (at_builtin; refine wpList_append_own_at _ rfl _ _ _ rfl w.heap.size 5 i5 (.int .u8 0) 1 1 Tryz.underlying33 Hi.out.1 Hi.out.2.1 Hi.out.2.2.1 Hi.out.2.2.2 rfl (by decide) (.slice (some ⟨w.heap.size, 0, none⟩) 0 0) 0 [] rfl HO.out ad n cap (bytesV bs) rfl ?f2 ?f3 (bytesV_cell bs) ?f4 ?f5 ?f7 ?f6)
    case f2 => first | exact Hn.out | (rw [Nat.mul_one, ← Hn.out]; simp)
    case f3 => exact HN.out
    case f4 => unfold maxLen; omega
    case f5 => omega
    case f7 => simp
    case f6 =>
      intro v2 w2 ho2 hg2 _ hat
      have HF : Hid (OB w.heap.size w bs v2 w2) := by
        refine ⟨by simpa [Hn.out, bytesV] using ho2, ((Below.refl w.heap.size w).alloc (Nat.le_refl _) _).trans (grown_below hg2 (fun g hg => ?_) (by simp)), Nat.le_refl _⟩
        simp [Value.ownBlock] at hg; omega
      clear ho2 hg2 hat
      go_wp2_with fail
      go_ret
      exact ⟨_, rfl, HF.out⟩

set_option maxRecDepth 100000 in
theorem writes_any {B : Nat} {S : DS} (w : World) (h : Dk B w 0 S) : Calls Tryz.prog 11 #[.pointer (some ⟨S.d, 0, none⟩)] w fun e w' => e = .returned (.int .i64 (S.wr : Int)) ∧ Dk B w' 0 S ∧ Fr w (Fp S) w' (Fp S) := by
  have l1 := h.cell 0 (.int .i32 0) rfl
  have l2 := frozen_of h.dk 0
  have HE : Hid (Dk B (w.setCell ⟨S.d, 0, none⟩ (.int .i32 1)) 1 S ∧ Fr w (Fp S) (w.setCell ⟨S.d, 0, none⟩ (.int .i32 1)) (Fp S)) := ⟨h.setLock 1, Fr.setCell (.inl rfl) _⟩
  clear h
  go_enter_defers Tryz.func11, Tryz.ntmps11
  go_wp2_with (go_at_call 28; refine (lock_free muLib ⟨S.d, 0, none⟩ _ l1 l2).mono ?_; rintro e w2 ⟨rfl, hw2⟩; have H2 : Hid (Dk B w2 1 S ∧ Fr w (Fp S) w2 (Fp S)) := (by rw [hw2]; exact HE.out); have c8 := H2.out.1.cell 8 (.int .i64 (S.wr : Int)) rfl; clear hw2 l1 l2)
  have HZ := hide (door_of H2.out.1 rfl)
  refine leaves_cons (f := 29) (args := #[.pointer (some ⟨S.d, 0, none⟩)]) (by simp) (by simp [go_sem]) ?_
  refine (unlock_deferred muLib ⟨S.d, 0, none⟩ .returning _ ?_ ?_).mono ?_
  · exact HZ.out.1
  · exact HZ.out.2.1
  rintro e u' w'' ⟨rfl, rfl, rfl⟩
  exact ⟨_, results_tmp rfl _ _ _, rfl, HZ.out.2.2.1, H2.out.2.trans HZ.out.2.2.2⟩

set_option maxRecDepth 100000 in
theorem sure_any {B : Nat} {S : DS} (w : World) (h : Dk B w 0 S) (hoff : S.off = false) (x : Fi) (hx : x ∈ S.L) (hs : okN x.nm) : Calls Tryz.prog 42 #[.pointer (some ⟨S.d, 0, none⟩), .string x.nm] w fun e w' => e = .returned (.tuple #[.int .i64 (x.su : Int), .int .i64 0]) ∧ Dk B w' 0 S ∧ Fr w (Fp S) w' (Fp S) := by
  have l1 := h.cell 0 (.int .i32 0) rfl
  have l2 := frozen_of h.dk 0
  have HE : Hid (Dk B (w.setCell ⟨S.d, 0, none⟩ (.int .i32 1)) 1 S ∧ Fr w (Fp S) (w.setCell ⟨S.d, 0, none⟩ (.int .i32 1)) (Fp S)) := ⟨h.setLock 1, Fr.setCell (.inl rfl) _⟩
  have HFI : Hid (∀ w2, Dk B w2 1 S → Calls Tryz.prog 51 #[.pointer (some ⟨S.d, 0, none⟩), .string x.nm] w2 fun e w' => e = .returned (.tuple #[.pointer (some ⟨x.f, 0, none⟩), .int .i64 0]) ∧ Below w2.heap.size w2 w') := fun w2 h2 => find_ok w2 h2 hoff x hx hs
  clear h hs
  go_enter_defers Tryz.func42, Tryz.ntmps42
  go_wp2_with (first | (go_at_call 28; refine (lock_free muLib ⟨S.d, 0, none⟩ _ l1 l2).mono ?_; rintro e w2 ⟨rfl, hw2⟩; have H2 : Hid (Dk B w2 1 S ∧ Fr w (Fp S) w2 (Fp S)) := (by rw [hw2]; exact HE.out); clear hw2 l1 l2) | (go_at_call 51; refine (HFI.out _ H2.out.1).mono ?_; rintro e w3 ⟨rfl, hB3⟩; have H3 : Hid (Dk B w3 1 S ∧ Fr w (Fp S) w3 (Fp S)) := ⟨H2.out.1.below hB3, H2.out.2.trans (Fr.of_below hB3)⟩; have c1 := H3.out.1.scell hx; clear hB3))
  have HZ := hide (door_of H3.out.1 rfl)
  refine leaves_cons (f := 29) (args := #[.pointer (some ⟨S.d, 0, none⟩)]) (by simp) (by simp [go_sem]) ?_
  refine (unlock_deferred muLib ⟨S.d, 0, none⟩ .returning _ ?_ ?_).mono ?_
  · exact HZ.out.1
  · exact HZ.out.2.1
  rintro e u' w'' ⟨rfl, rfl, rfl⟩
  exact ⟨_, results_tmp2 rfl _ _ _, rfl, HZ.out.2.2.1, H3.out.2.trans HZ.out.2.2.2⟩

set_option maxRecDepth 100000 in
set_option maxHeartbeats 1000000 in
theorem read_any {B : Nat} {S : DS} (w : World) (h : Dk B w 0 S) (hoff : S.off = false) (x : Fi) (hx : x ∈ S.L) (hs : okN x.nm) : Calls Tryz.prog 27 #[.pointer (some ⟨S.d, 0, none⟩), .string x.nm] w fun e w' => ∃ v2, e = .returned (.tuple #[v2, .int .i64 0]) ∧ (Dk B w' 0 S ∧ Fr w (Fp S) w' (Fp S)) ∧ w'.ownsRow w.heap.size 5 1 v2 x.bs.length (bytesV x.bs) ∧ ∀ k, v2.ownBlock = some k → ¬ Fp S k := by
  obtain ⟨p, cap, hv⟩ := h.fslice hx
  have HV := hide hv
  have l1 := h.cell 0 (.int .i32 0) rfl
  have l2 := frozen_of h.dk 0
  have HE : Hid (Dk B (w.setCell ⟨S.d, 0, none⟩ (.int .i32 1)) 1 S ∧ Fr w (Fp S) (w.setCell ⟨S.d, 0, none⟩ (.int .i32 1)) (Fp S)) := ⟨h.setLock 1, Fr.setCell (.inl rfl) _⟩
  have HFI : Hid (∀ w2, Dk B w2 1 S → Calls Tryz.prog 51 #[.pointer (some ⟨S.d, 0, none⟩), .string x.nm] w2 fun e w' => e = .returned (.tuple #[.pointer (some ⟨x.f, 0, none⟩), .int .i64 0]) ∧ Below w2.heap.size w2 w') := fun w2 h2 => find_ok w2 h2 hoff x hx hs
  have HC : Hid (∀ w3, Dk B w3 1 S → Calls Tryz.prog 31 #[.slice p x.bs.length cap] w3 fun e w' => ∃ v2, e = .returned v2 ∧ OB w3.heap.size w3 x.bs v2 w') := fun w3 h3 => bclone_any _ x.bs w3 (by
    have ho := h3.ow x hx
    rw [hv] at ho
    exact OB.by_ ⟨ho, Below.refl B w3, h3.lt⟩) (by
      have := Con.tot_upd (con_nodup h3) (con_mem hx) [] 0
      have h4 := h3.rm
      rw [tot_con] at h4
      have e : S.ps.con = S.L.map Fi.con := rfl
      rw [e] at this; simp at this; omega)
  clear h hs hv
  go_enter_defers Tryz.func27, Tryz.ntmps27
  go_wp2_with (first | (go_at_call 28; refine (lock_free muLib ⟨S.d, 0, none⟩ _ l1 l2).mono ?_; rintro e w2 ⟨rfl, hw2⟩; have H2 : Hid (Dk B w2 1 S ∧ Fr w (Fp S) w2 (Fp S)) := (by rw [hw2]; exact HE.out); clear hw2 l1 l2) | (go_at_call 51; refine (HFI.out _ H2.out.1).mono ?_; rintro e w3 ⟨rfl, hB3⟩; have H3 : Hid (Dk B w3 1 S ∧ Fr w (Fp S) w3 (Fp S)) := ⟨H2.out.1.below hB3, H2.out.2.trans (Fr.of_below hB3)⟩; have c0 : w3.cell? ⟨x.f, 0, none⟩ = some (.slice p x.bs.length cap) := (by rw [← HV.out]; exact H3.out.1.fcell hx); clear hB3) | (go_at_call 31; refine (HC.out _ H3.out.1).mono ?_; rintro e w4 ⟨v2, rfl, hO⟩; have H4 : Hid (OB w3.heap.size w3 x.bs v2 w4) := hO; clear hO))
  have hD := H3.out.1.below H4.out.bel
  have HZ := hide (door_of hD rfl)
  have HB : Hid (∀ k, v2.ownBlock = some k → w3.heap.size ≤ k ∧ k < w4.heap.size ∧ k ≠ S.d) := fun k hk => ⟨(H4.out.own.lt k hk).1, (H4.out.own.lt k hk).2, fun e => by have := (H4.out.own.lt k hk).1; have := heap_lt H3.out.1.dk; omega⟩
  refine leaves_cons (f := 29) (args := #[.pointer (some ⟨S.d, 0, none⟩)]) (by simp) (by simp [go_sem]) ?_
  refine (unlock_deferred muLib ⟨S.d, 0, none⟩ .returning _ ?_ ?_).mono ?_
  · exact HZ.out.1
  · exact HZ.out.2.1
  rintro e u' w'' ⟨rfl, rfl, rfl⟩
  refine ⟨_, results_tmp2 rfl _ _ _, _, rfl, ⟨HZ.out.2.2.1, (H3.out.2.trans (Fr.of_below H4.out.bel)).trans HZ.out.2.2.2⟩, ⟨H4.out.own.1, ?_⟩, fun k hk e => by have := (HB.out k hk).1; have := H3.out.1.fpLt k e; omega⟩
  have ho : (w4.setCell ⟨S.d, 0, none⟩ (.int .i32 0)).ownsRow w3.heap.size 5 1 v2 x.bs.length (bytesV x.bs) := ownsRow_keep H4.out.own fun g hg => Below.heap_setCell _ _ _ _ (fun e => (HB.out g hg).2.2 e)
  rcases ho.2 with e | ⟨g, cap, cur, e1, e2, e3⟩
  · exact .inl e
  · exact .inr ⟨g, cap, cur, e1, Nat.le_trans (H3.out.2.size) e2, e3⟩

set_option maxRecDepth 100000 in
theorem read_no {B : Nat} {S : DS} (w : World) (h : Dk B w 0 S) (hoff : S.off = false) (nm : ByteArray) (hx : ∀ x ∈ S.L, x.nm ≠ nm) (hs : okN nm) : Calls Tryz.prog 27 #[.pointer (some ⟨S.d, 0, none⟩), .string nm] w fun e w' => e = .returned (.tuple #[.slice none 0 0, .int .i64 102]) ∧ Dk B w' 0 S ∧ Fr w (Fp S) w' (Fp S) := by
  have l1 := h.cell 0 (.int .i32 0) rfl
  have l2 := frozen_of h.dk 0
  have HE : Hid (Dk B (w.setCell ⟨S.d, 0, none⟩ (.int .i32 1)) 1 S ∧ Fr w (Fp S) (w.setCell ⟨S.d, 0, none⟩ (.int .i32 1)) (Fp S)) := ⟨h.setLock 1, Fr.setCell (.inl rfl) _⟩
  have HFI : Hid (∀ w2, Dk B w2 1 S → Calls Tryz.prog 51 #[.pointer (some ⟨S.d, 0, none⟩), .string nm] w2 fun e w' => e = .returned (.tuple #[.pointer none, .int .i64 102]) ∧ Below w2.heap.size w2 w') := fun w2 h2 => find_no w2 h2 hoff nm hx hs
  clear h hs hx
  go_enter_defers Tryz.func27, Tryz.ntmps27
  go_wp2_with (first | (go_at_call 28; refine (lock_free muLib ⟨S.d, 0, none⟩ _ l1 l2).mono ?_; rintro e w2 ⟨rfl, hw2⟩; have H2 : Hid (Dk B w2 1 S ∧ Fr w (Fp S) w2 (Fp S)) := (by rw [hw2]; exact HE.out); clear hw2 l1 l2) | (go_at_call 51; refine (HFI.out _ H2.out.1).mono ?_; rintro e w3 ⟨rfl, hB3⟩; have H3 : Hid (Dk B w3 1 S ∧ Fr w (Fp S) w3 (Fp S)) := ⟨H2.out.1.below hB3, H2.out.2.trans (Fr.of_below hB3)⟩; clear hB3))
  have HZ := hide (door_of H3.out.1 rfl)
  refine leaves_cons (f := 29) (args := #[.pointer (some ⟨S.d, 0, none⟩)]) (by simp) (by simp [go_sem]) ?_
  refine (unlock_deferred muLib ⟨S.d, 0, none⟩ .returning _ ?_ ?_).mono ?_
  · exact HZ.out.1
  · exact HZ.out.2.1
  rintro e u' w'' ⟨rfl, rfl, rfl⟩
  exact ⟨_, results_tmp2 rfl _ _ _, rfl, HZ.out.2.2.1, H3.out.2.trans HZ.out.2.2.2⟩

end Go.Proofs.YtlandfghodfjdaaGreat

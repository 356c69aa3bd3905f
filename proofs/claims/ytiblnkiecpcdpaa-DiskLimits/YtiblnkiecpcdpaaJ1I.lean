/- Append: the whole of it. -/
import Derived.Test.YtiblnkiecpcdpaaJ1H
namespace Go.Proofs.Ytiblnkiecpcdpaa
open Go.RowKit
open Go.MuLone (lock_free unlock_deferred run_callFunc_enter)
set_option linter.unusedVariables false
set_option linter.unusedSimpArgs false

/-- A disk whose lock is held, as the door asks it. -/
theorem door_of {B : Nat} {w : World} {S' : DS} {d : Nat} (h : Dk B w 1 S') (hd : S'.d = d) : w.cell? ⟨d, 0, none⟩ = some (.int .i32 1) ∧ w.frozen? ⟨d, 0, none⟩ = false ∧ Dk B (w.setCell ⟨d, 0, none⟩ (.int .i32 0)) 0 S' ∧ Fr w (Fp S') (w.setCell ⟨d, 0, none⟩ (.int .i32 0)) (Fp S') := by
  subst hd
  exact ⟨h.cell 0 _ rfl, frozen_of h.dk 0, h.setLock 0, Fr.setCell (.inl rfl) _⟩

theorem Fr.isBy {w w' : World} {F F' : Nat → Prop} (h : Fr w F w' F') {v : Value} {bs : List Nat} (hn : ∀ k, v.ownBlock = some k → ¬ F k) (hb : IsBy w v bs) : IsBy w' v bs := by
  rcases hb with (h1 | ⟨g, o, cap, h1, h2⟩) | h1
  · exact .inl (.inl h1)
  · refine .inl (.inr ⟨g, o, cap, h1, fun i hi => h.cell (a := ⟨g, o + i, none⟩) (hn g ?_) (h2 i hi)⟩)
    rw [h1]; rfl
  · exact .inr h1

theorem enter_append {B : Nat} {S : DS} {w : World} (h : Dk B w 0 S) (nm : ByteArray) (p : Option Addr) (n cb : Nat) (bs : List Nat) (hb : IsBy w (.slice p n cb) bs) (hfb : ∀ k, (Value.slice p n cb).ownBlock = some k → ¬ Fp S k) :
    (((w.alloc (.cells #[.pointer (some ⟨S.d, 0, none⟩)] 27)).alloc (.cells #[.string nm] 9)).alloc (.cells #[.slice p n cb] 34)).cell? ⟨S.d, 0, none⟩ = some (.int .i32 0) ∧ (((w.alloc (.cells #[.pointer (some ⟨S.d, 0, none⟩)] 27)).alloc (.cells #[.string nm] 9)).alloc (.cells #[.slice p n cb] 34)).frozen? ⟨S.d, 0, none⟩ = false ∧ (Dk B ((((w.alloc (.cells #[.pointer (some ⟨S.d, 0, none⟩)] 27)).alloc (.cells #[.string nm] 9)).alloc (.cells #[.slice p n cb] 34)).setCell ⟨S.d, 0, none⟩ (.int .i32 1)) 1 S ∧ Fr w (Fp S) ((((w.alloc (.cells #[.pointer (some ⟨S.d, 0, none⟩)] 27)).alloc (.cells #[.string nm] 9)).alloc (.cells #[.slice p n cb] 34)).setCell ⟨S.d, 0, none⟩ (.int .i32 1)) (Fp S) ∧ IsBy ((((w.alloc (.cells #[.pointer (some ⟨S.d, 0, none⟩)] 27)).alloc (.cells #[.string nm] 9)).alloc (.cells #[.slice p n cb] 34)).setCell ⟨S.d, 0, none⟩ (.int .i32 1)) (.slice p n cb) bs ∧ (((((w.alloc (.cells #[.pointer (some ⟨S.d, 0, none⟩)] 27)).alloc (.cells #[.string nm] 9)).alloc (.cells #[.slice p n cb] 34)).setCell ⟨S.d, 0, none⟩ (.int .i32 1)).cell? ⟨w.heap.size, 0, none⟩ = some (.pointer (some ⟨S.d, 0, none⟩)) ∧ ((((w.alloc (.cells #[.pointer (some ⟨S.d, 0, none⟩)] 27)).alloc (.cells #[.string nm] 9)).alloc (.cells #[.slice p n cb] 34)).setCell ⟨S.d, 0, none⟩ (.int .i32 1)).cell? ⟨w.heap.size + 1, 0, none⟩ = some (.string nm) ∧ ((((w.alloc (.cells #[.pointer (some ⟨S.d, 0, none⟩)] 27)).alloc (.cells #[.string nm] 9)).alloc (.cells #[.slice p n cb] 34)).setCell ⟨S.d, 0, none⟩ (.int .i32 1)).cell? ⟨w.heap.size + 2, 0, none⟩ = some (.slice p n cb))) := by
  have hb1 : Below w.heap.size w (((w.alloc (.cells #[.pointer (some ⟨S.d, 0, none⟩)] 27)).alloc (.cells #[.string nm] 9)).alloc (.cells #[.slice p n cb] 34)) := (((Below.refl _ _).alloc (Nat.le_refl _) _).alloc (by simp) _).alloc (by simp; omega) _
  have h1 := h.below hb1
  have hf1 : Fr w (Fp S) ((((w.alloc (.cells #[.pointer (some ⟨S.d, 0, none⟩)] 27)).alloc (.cells #[.string nm] 9)).alloc (.cells #[.slice p n cb] 34)).setCell ⟨S.d, 0, none⟩ (.int .i32 1)) (Fp S) := (Fr.of_below hb1).trans (Fr.setCell (.inl rfl) _)
  have hd := heap_lt h.dk
  have a1 : (((w.alloc (.cells #[.pointer (some ⟨S.d, 0, none⟩)] 27)).alloc (.cells #[.string nm] 9)).alloc (.cells #[.slice p n cb] 34)).heap[w.heap.size]? = some (.cells #[.pointer (some ⟨S.d, 0, none⟩)] 27 (0, 0)) := new_kept (new_kept (heap_alloc_new w _) _) _
  have a2 : (((w.alloc (.cells #[.pointer (some ⟨S.d, 0, none⟩)] 27)).alloc (.cells #[.string nm] 9)).alloc (.cells #[.slice p n cb] 34)).heap[w.heap.size + 1]? = some (.cells #[.string nm] 9 (0, 0)) := new_kept (by have := heap_alloc_new (w.alloc (.cells #[.pointer (some ⟨S.d, 0, none⟩)] 27)) (.cells #[.string nm] 9); simpa using this) _
  have a3 : (((w.alloc (.cells #[.pointer (some ⟨S.d, 0, none⟩)] 27)).alloc (.cells #[.string nm] 9)).alloc (.cells #[.slice p n cb] 34)).heap[w.heap.size + 2]? = some (.cells #[.slice p n cb] 34 (0, 0)) := by have := heap_alloc_new ((w.alloc (.cells #[.pointer (some ⟨S.d, 0, none⟩)] 27)).alloc (.cells #[.string nm] 9)) (.cells #[.slice p n cb] 34); simpa using this
  refine ⟨h1.cell 0 _ rfl, frozen_of h1.dk 0, h1.setLock 1, hf1, hf1.isBy hfb hb, ?_, ?_, ?_⟩
  · rw [World.cell?_setCell_other _ _ _ _ (fun e => by injection e; omega), cell_of_row _ _ _ _ _ _ a1]; rfl
  · rw [World.cell?_setCell_other _ _ _ _ (fun e => by injection e; omega), cell_of_row _ _ _ _ _ _ a2]; rfl
  · rw [World.cell?_setCell_other _ _ _ _ (fun e => by injection e; omega), cell_of_row _ _ _ _ _ _ a3]; rfl

theorem st_below {B : Nat} {S : DS} {w w2 w3 : World} {lk : Int} {nm : ByteArray} {p : Option Addr} {n cb : Nat} {bs : List Nat} (h : Dk B w2 lk S ∧ Fr w (Fp S) w2 (Fp S) ∧ IsBy w2 (.slice p n cb) bs ∧ (w2.cell? ⟨w.heap.size, 0, none⟩ = some (.pointer (some ⟨S.d, 0, none⟩)) ∧ w2.cell? ⟨w.heap.size + 1, 0, none⟩ = some (.string nm) ∧ w2.cell? ⟨w.heap.size + 2, 0, none⟩ = some (.slice p n cb))) (hb : Below w2.heap.size w2 w3) : Dk B w3 lk S ∧ Fr w (Fp S) w3 (Fp S) ∧ IsBy w3 (.slice p n cb) bs ∧ (w3.cell? ⟨w.heap.size, 0, none⟩ = some (.pointer (some ⟨S.d, 0, none⟩)) ∧ w3.cell? ⟨w.heap.size + 1, 0, none⟩ = some (.string nm) ∧ w3.cell? ⟨w.heap.size + 2, 0, none⟩ = some (.slice p n cb)) :=
  ⟨h.1.below hb, h.2.1.trans (Fr.of_below hb), isBy_below h.2.2.1 hb, by rw [hb.cell (p := ⟨w.heap.size, 0, none⟩) (World.block_lt_of_cell? _ _ h.2.2.2.1)]; exact h.2.2.2.1, by rw [hb.cell (p := ⟨w.heap.size + 1, 0, none⟩) (World.block_lt_of_cell? _ _ h.2.2.2.2.1)]; exact h.2.2.2.2.1, by rw [hb.cell (p := ⟨w.heap.size + 2, 0, none⟩) (World.block_lt_of_cell? _ _ h.2.2.2.2.2)]; exact h.2.2.2.2.2⟩

theorem fp_new {B : Nat} {S : DS} {w : World} {lk : Int} (h : Dk B w lk S) (k : Nat) (hk : w.heap.size ≤ k) : ¬ Fp S k := fun e => by have := h.fpLt k e; omega

/-- Append of bytes that have room, by a disk that is on and not armed. -/
theorem append_ok {B : Nat} {S : DS} (w : World) (h : Dk B w 0 S) (hoff : S.off = false) (harm : S.ain = 0) (hwr : S.wr ≤ 1000000000) (nm : ByteArray) (hs : okN nm) (hc : (∃ x ∈ S.L, x.nm = nm) ∨ ((∀ x ∈ S.L, x.nm ≠ nm) ∧ S.L.length < 256)) (p : Option Addr) (n cb : Nat) (bs : List Nat) (hnb : n = bs.length) (hnc : n ≤ cb) (hp : p = none → cb = 0) (hb : IsBy w (.slice p n cb) bs) (hfb : ∀ k, (Value.slice p n cb).ownBlock = some k → ¬ Fp S k) (hbb : ∀ n ∈ bs, n < 256) (hr : tot S.L + bs.length ≤ S.room) :
    Calls Try.prog 16 #[.pointer (some ⟨S.d, 0, none⟩), .string nm, .slice p n cb] w fun e w' => e = .returned (.int .i64 0) ∧ ∃ S' : DS, S'.d = S.d ∧ S'.ps = { S.ps with con := Con.app S.ps.con nm bs, wr := S.ps.wr + 1 } ∧ Dk B w' 0 S' ∧ Fr w (Fp S) w' (Fp S') := by
  have hmf : ∀ (fn : Fn) (first cap : Array Value) (w : World), (Instr.makeFunc fn first cap).run Try.prog w = .ok (.func fn first cap) w := fun _ _ _ _ => rfl
  have HE := hide (enter_append h nm p n cb bs hb hfb)
  have HS := hide hs
  have HC := hide hc
  have HW : Hid (∀ w4, (Dk B w4 1 S ∧ Fr w (Fp S) w4 (Fp S) ∧ IsBy w4 (.slice p n cb) bs ∧ (w4.cell? ⟨w.heap.size, 0, none⟩ = some (.pointer (some ⟨S.d, 0, none⟩)) ∧ w4.cell? ⟨w.heap.size + 1, 0, none⟩ = some (.string nm) ∧ w4.cell? ⟨w.heap.size + 2, 0, none⟩ = some (.slice p n cb))) → Calls Try.prog 41 #[.pointer (some ⟨S.d, 0, none⟩), .func (.func 42) #[] #[.pointer (some ⟨w.heap.size, 0, none⟩), .pointer (some ⟨w.heap.size + 1, 0, none⟩), .pointer (some ⟨w.heap.size + 2, 0, none⟩)]] w4 fun e w' => e = .returned (.int .i64 0) ∧ ∃ S' : DS, S'.d = S.d ∧ S'.ps = { S.ps with con := Con.app S.ps.con nm bs, wr := S.ps.wr + 1 } ∧ Dk B w' 1 S' ∧ Fr w (Fp S) w' (Fp S')) := fun w4 H4 => by
    refine write_ok w4 H4.1 harm hwr _ _ _ (fun args w => run_callFunc_enter Try.func42 (by kernel_rfl) rfl args w) ?_
    have h5 := H4.1.setWr (S.wr + 1)
    have hf5 : Fr w4 (Fp S) (w4.setCell ⟨S.d, 8, none⟩ (.int .i64 ((S.wr : Int) + 1))) (Fp S) := Fr.setCell (.inl rfl) _
    have hn := fun k (hk : w.heap.size ≤ k) => fp_new h k hk
    refine (appendC_any (S := { S with wr := S.wr + 1 }) (w4.setCell ⟨S.d, 8, none⟩ (.int .i64 ((S.wr : Int) + 1))) h5 nm (by have := hs.2.1; omega) hc p n cb bs hnb (by have := h.rm; omega) hnc hp (hf5.isBy hfb H4.2.2.1) hbb hr w.heap.size (w.heap.size + 1) (w.heap.size + 2) (hn _ (Nat.le_refl _)) (hn _ (by omega)) (hn _ (by omega)) (hf5.cell (hn _ (Nat.le_refl _)) H4.2.2.2.1) (hf5.cell (a := ⟨w.heap.size + 1, 0, none⟩) (hn (w.heap.size + 1) (by omega)) H4.2.2.2.2.1) (hf5.cell (a := ⟨w.heap.size + 2, 0, none⟩) (hn (w.heap.size + 2) (by omega)) H4.2.2.2.2.2)).mono ?_
    rintro e w' ⟨rfl, S', e1, e2, e3, e4⟩
    exact ⟨rfl, S', e1, e2, e3, H4.2.1.trans (hf5.trans e4)⟩
  have HFT : Hid (∀ w3, Dk B w3 1 S → Calls Try.prog 40 #[.pointer (some ⟨S.d, 0, none⟩), .string nm, .int .i64 (n : Int)] w3 fun e w' => e = .returned (.bool true) ∧ Below w3.heap.size w3 w') := fun w3 h3 => fits_ok w3 h3 nm n hc (by omega)
  have l1 := HE.out.1
  have l2 := HE.out.2.1
  clear h hs hb hbb hr hc hnb hp hnc hfb
  go_enter_defers Try.func16, Try.ntmps16
  go_wp2_with (first
    | (go_at_call 34; refine (lock_free muLib ⟨S.d, 0, none⟩ _ l1 l2).mono ?_; rintro e w2 ⟨rfl, hw2⟩; have H2 : Hid (Dk B w2 1 S ∧ Fr w (Fp S) w2 (Fp S) ∧ IsBy w2 (.slice p n cb) bs ∧ (w2.cell? ⟨w.heap.size, 0, none⟩ = some (.pointer (some ⟨S.d, 0, none⟩)) ∧ w2.cell? ⟨w.heap.size + 1, 0, none⟩ = some (.string nm) ∧ w2.cell? ⟨w.heap.size + 2, 0, none⟩ = some (.slice p n cb))) := (by rw [hw2]; exact HE.out.2.2); obtain ⟨_, _, _, b1, b2, b3⟩ := H2.out; clear hw2 l1 l2)
    | (go_at_call 39; refine (refusal_ok _ (H2.out.1.below ((Below.refl _ _).alloc (Nat.le_refl _) _)) hoff nm HS.out _ (by simp)).mono ?_; rintro e w3 ⟨rfl, hw3⟩; have H3 : Hid (Dk B w3 1 S ∧ Fr w (Fp S) w3 (Fp S) ∧ IsBy w3 (.slice p n cb) bs ∧ (w3.cell? ⟨w.heap.size, 0, none⟩ = some (.pointer (some ⟨S.d, 0, none⟩)) ∧ w3.cell? ⟨w.heap.size + 1, 0, none⟩ = some (.string nm) ∧ w3.cell? ⟨w.heap.size + 2, 0, none⟩ = some (.slice p n cb))) := (by rw [hw3]; exact st_below H2.out ((Below.refl _ _).alloc (Nat.le_refl _) _)); obtain ⟨_, _, _, b4, b5, b6⟩ := H3.out; clear hw3)
    | (go_at_call 40; refine (HFT.out _ H3.out.1).mono ?_; rintro e w4 ⟨rfl, hB4⟩; have H4 : Hid (Dk B w4 1 S ∧ Fr w (Fp S) w4 (Fp S) ∧ IsBy w4 (.slice p n cb) bs ∧ (w4.cell? ⟨w.heap.size, 0, none⟩ = some (.pointer (some ⟨S.d, 0, none⟩)) ∧ w4.cell? ⟨w.heap.size + 1, 0, none⟩ = some (.string nm) ∧ w4.cell? ⟨w.heap.size + 2, 0, none⟩ = some (.slice p n cb))) := st_below H3.out hB4; obtain ⟨_, _, _, b7, b8, b9⟩ := H4.out; clear hB4)
    | (go_at_call 41; refine (HW.out _ H4.out).mono ?_; rintro e w5 ⟨rfl, hR⟩; have H5 := hide hR; clear hR))
  obtain ⟨S5, e1, e2, e3, e4⟩ := H5.out
  have HZ := hide (door_of e3 e1)
  refine leaves_cons (f := 35) (args := #[.pointer (some ⟨S.d, 0, none⟩)]) (by simp) (by simp [go_sem]) ?_
  refine (unlock_deferred muLib ⟨S.d, 0, none⟩ .returning _ ?_ ?_).mono ?_
  · exact HZ.out.1
  · exact HZ.out.2.1
  rintro e u' w'' ⟨rfl, rfl, rfl⟩
  exact ⟨_, results_tmp rfl _ _ _, rfl, S5, e1, e2, HZ.out.2.2.1, e4.trans HZ.out.2.2.2⟩

end Go.Proofs.Ytiblnkiecpcdpaa

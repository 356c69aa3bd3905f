/- Append: whatever is asked. -/
import Derived.Test.YtlandfghodfjdaaGreatJ12B
import Derived.Test.YtlandfghodfjdaaGreatJ11D
namespace Go.Proofs.YtlandfghodfjdaaGreat
open Go.RowKit
open Go.MuLone (lock_free unlock_deferred run_callFunc_enter)
set_option linter.unusedVariables false
set_option linter.unusedSimpArgs false

def CodeE (P : Int → Prop) (e : Ending) : Prop := ∃ c : Int, e = .returned (.int .i64 c) ∧ P c

theorem refs_no {off : Bool} {names : List ByteArray} {c : Int} (h : Refs off names c) (hn : ¬ (off = false ∧ ∀ s ∈ names, okN s)) : ¬ c = 0 := by
  rcases h with ⟨_, e⟩ | ⟨_, _, e⟩ | ⟨h1, h2, _⟩
  · omega
  · omega
  · exact absurd ⟨h1, h2⟩ hn

set_option maxRecDepth 100000 in
theorem append_refused {B : Nat} {S : DS} (w : World) (h : Dk B w 0 S) (nm : ByteArray) (hz : nm.size ≤ 140737488355328) (p : Option Addr) (n cb : Nat) (bs : List Nat) (hnb : n = bs.length) (hb : IsBy w (.slice p n cb) bs) (hfb : ∀ k, (Value.slice p n cb).ownBlock = some k → ¬ Fp S k) (hn : ¬ (S.off = false ∧ ∀ s ∈ [nm], okN s)) :
    Calls Tryz.prog 24 #[.pointer (some ⟨S.d, 0, none⟩), .string nm, .slice p n cb] w fun e w' => CodeE (fun c => Refs S.off [nm] c ∧ ¬ c = 0) e ∧ Dk B w' 0 S ∧ Fr w (Fp S) w' (Fp S) := by
  have HE := hide (enter_append h nm p n cb bs hb hfb)
  have HN := hide hn
  have l1 := HE.out.1
  have l2 := HE.out.2.1
  clear h hb hfb hn hnb
  go_enter_defers Tryz.func24, Tryz.ntmps24
  go_wp2_with (first
    | (go_at_call 28; refine (lock_free muLib ⟨S.d, 0, none⟩ _ l1 l2).mono ?_; rintro e w2 ⟨rfl, hw2⟩; have H2 : Hid (Dk B w2 1 S ∧ Fr w (Fp S) w2 (Fp S) ∧ IsBy w2 (.slice p n cb) bs ∧ (w2.cell? ⟨w.heap.size, 0, none⟩ = some (.pointer (some ⟨S.d, 0, none⟩)) ∧ w2.cell? ⟨w.heap.size + 1, 0, none⟩ = some (.string nm) ∧ w2.cell? ⟨w.heap.size + 2, 0, none⟩ = some (.slice p n cb))) := (by rw [hw2]; exact HE.out.2.2); obtain ⟨_, _, _, b1, b2, b3⟩ := H2.out; clear hw2 l1 l2)
    | (go_at_call 48; refine (refusal1_any _ (H2.out.1.below ((Below.refl _ _).alloc (Nat.le_refl _) _)) nm hz _ (by simp)).mono ?_; rintro e w3 ⟨hE, hw3⟩; obtain ⟨c, rfl, hc⟩ := hE; have hc0 : ¬ c = 0 := refs_no hc HN.out; have HC := hide hc; have H3 : Hid (Dk B w3 1 S ∧ Fr w (Fp S) w3 (Fp S) ∧ IsBy w3 (.slice p n cb) bs ∧ (w3.cell? ⟨w.heap.size, 0, none⟩ = some (.pointer (some ⟨S.d, 0, none⟩)) ∧ w3.cell? ⟨w.heap.size + 1, 0, none⟩ = some (.string nm) ∧ w3.cell? ⟨w.heap.size + 2, 0, none⟩ = some (.slice p n cb))) := (by rw [hw3]; exact st_below H2.out ((Below.refl _ _).alloc (Nat.le_refl _) _)); clear hw3 hc))
  have HZ := hide (door_of H3.out.1 rfl)
  refine leaves_cons (f := 29) (args := #[.pointer (some ⟨S.d, 0, none⟩)]) (by simp) (by simp [go_sem]) ?_
  refine (unlock_deferred muLib ⟨S.d, 0, none⟩ .returning _ ?_ ?_).mono ?_
  · exact HZ.out.1
  · exact HZ.out.2.1
  rintro e u' w'' ⟨rfl, rfl, rfl⟩
  exact ⟨_, results_tmp rfl _ _ _, ⟨c, rfl, HC.out, hc0⟩, HZ.out.2.2.1, H3.out.2.1.trans HZ.out.2.2.2⟩

set_option maxRecDepth 100000 in
theorem append_full {B : Nat} {S : DS} (w : World) (h : Dk B w 0 S) (nm : ByteArray) (hz : nm.size ≤ 140737488355328) (p : Option Addr) (n cb : Nat) (bs : List Nat) (hnb : n = bs.length) (hb : IsBy w (.slice p n cb) bs) (hfb : ∀ k, (Value.slice p n cb).ownBlock = some k → ¬ Fp S k) (hoff : S.off = false) (hs : okN nm) (hn : n ≤ 140737488355328) (hf : ¬ (((∃ x ∈ S.L, x.nm = nm) ∨ S.L.length < 256) ∧ n + tot S.L ≤ S.room)) :
    Calls Tryz.prog 24 #[.pointer (some ⟨S.d, 0, none⟩), .string nm, .slice p n cb] w fun e w' => e = .returned (.int .i64 103) ∧ Dk B w' 0 S ∧ Fr w (Fp S) w' (Fp S) := by
  have HE := hide (enter_append h nm p n cb bs hb hfb)
  have HS := hide hs
  have HFT : Hid (∀ w3, Dk B w3 1 S → Calls Tryz.prog 44 #[.pointer (some ⟨S.d, 0, none⟩), .string nm, .int .i64 (n : Int)] w3 fun e w' => e = .returned (.bool false) ∧ Below w3.heap.size w3 w') := fun w3 h3 => by
    refine (fits_any w3 h3 nm n hn).mono ?_
    rintro e w' ⟨⟨b, rfl, hb⟩, hB⟩
    have : b = false := by
      cases b
      · rfl
      · exact absurd (hb.1 rfl) hf
    rw [this]
    exact ⟨rfl, hB⟩
  have l1 := HE.out.1
  have l2 := HE.out.2.1
  clear h hb hfb hs hf hnb
  go_enter_defers Tryz.func24, Tryz.ntmps24
  go_wp2_with (first
    | (go_at_call 28; refine (lock_free muLib ⟨S.d, 0, none⟩ _ l1 l2).mono ?_; rintro e w2 ⟨rfl, hw2⟩; have H2 : Hid (Dk B w2 1 S ∧ Fr w (Fp S) w2 (Fp S) ∧ IsBy w2 (.slice p n cb) bs ∧ (w2.cell? ⟨w.heap.size, 0, none⟩ = some (.pointer (some ⟨S.d, 0, none⟩)) ∧ w2.cell? ⟨w.heap.size + 1, 0, none⟩ = some (.string nm) ∧ w2.cell? ⟨w.heap.size + 2, 0, none⟩ = some (.slice p n cb))) := (by rw [hw2]; exact HE.out.2.2); obtain ⟨_, _, _, b1, b2, b3⟩ := H2.out; clear hw2 l1 l2)
    | (go_at_call 48; refine (refusal_ok _ (H2.out.1.below ((Below.refl _ _).alloc (Nat.le_refl _) _)) hoff nm HS.out _ (by simp)).mono ?_; rintro e w3 ⟨rfl, hw3⟩; have H3 : Hid (Dk B w3 1 S ∧ Fr w (Fp S) w3 (Fp S) ∧ IsBy w3 (.slice p n cb) bs ∧ (w3.cell? ⟨w.heap.size, 0, none⟩ = some (.pointer (some ⟨S.d, 0, none⟩)) ∧ w3.cell? ⟨w.heap.size + 1, 0, none⟩ = some (.string nm) ∧ w3.cell? ⟨w.heap.size + 2, 0, none⟩ = some (.slice p n cb))) := (by rw [hw3]; exact st_below H2.out ((Below.refl _ _).alloc (Nat.le_refl _) _)); obtain ⟨_, _, _, b4, b5, b6⟩ := H3.out; clear hw3)
    | (go_at_call 44; refine (HFT.out _ H3.out.1).mono ?_; rintro e w4 ⟨rfl, hB4⟩; have H4 : Hid (Dk B w4 1 S ∧ Fr w (Fp S) w4 (Fp S) ∧ IsBy w4 (.slice p n cb) bs ∧ (w4.cell? ⟨w.heap.size, 0, none⟩ = some (.pointer (some ⟨S.d, 0, none⟩)) ∧ w4.cell? ⟨w.heap.size + 1, 0, none⟩ = some (.string nm) ∧ w4.cell? ⟨w.heap.size + 2, 0, none⟩ = some (.slice p n cb))) := st_below H3.out hB4; obtain ⟨_, _, _, b7, b8, b9⟩ := H4.out; clear hB4))
  have HZ := hide (door_of H4.out.1 rfl)
  refine leaves_cons (f := 29) (args := #[.pointer (some ⟨S.d, 0, none⟩)]) (by simp) (by simp [go_sem]) ?_
  refine (unlock_deferred muLib ⟨S.d, 0, none⟩ .returning _ ?_ ?_).mono ?_
  · exact HZ.out.1
  · exact HZ.out.2.1
  rintro e u' w'' ⟨rfl, rfl, rfl⟩
  exact ⟨_, results_tmp rfl _ _ _, rfl, HZ.out.2.2.1, H4.out.2.1.trans HZ.out.2.2.2⟩

/-- What Append tells and leaves. -/
def AppR (p : PS) (nm : ByteArray) (bs : List Nat) (c : Int) (p' : PS) : Prop :=
  (Refs p.off [nm] c ∧ ¬ c = 0 ∧ p' = p) ∨ (p.off = false ∧ okN nm ∧ ¬ ((p.con.has nm ∨ p.con.length < 256) ∧ bs.length + Con.tot p.con ≤ p.room) ∧ c = 103 ∧ p' = p) ∨
  (p.off = false ∧ okN nm ∧ ((p.con.has nm ∨ p.con.length < 256) ∧ bs.length + Con.tot p.con ≤ p.room) ∧ c = p.code ∧ p' = p.wrote (appF nm bs))

theorem has_iff (S : DS) (nm : ByteArray) : S.ps.con.has nm ↔ ∃ x ∈ S.L, x.nm = nm := by
  constructor
  · rintro ⟨y, hy, e⟩
    obtain ⟨x, hx, rfl⟩ := List.mem_map.1 hy
    exact ⟨x, hx, e⟩
  · rintro ⟨x, hx, e⟩
    exact ⟨_, con_mem hx, e⟩

theorem append_all {B : Nat} {S : DS} (w : World) (h : Dk B w 0 S) (nm : ByteArray) (hz : nm.size ≤ 140737488355328) (p : Option Addr) (n cb : Nat) (bs : List Nat) (hnb : n = bs.length) (hb : IsBy w (.slice p n cb) bs) (hfb : ∀ k, (Value.slice p n cb).ownBlock = some k → ¬ Fp S k) (hnc : n ≤ cb) (hp : p = none → cb = 0) (hbb : ∀ n ∈ bs, n < 256) (hn : n ≤ 140737488355328) (hA : S.ps.arms) (hwr : S.wr ≤ 1000000000) :
    Calls Tryz.prog 24 #[.pointer (some ⟨S.d, 0, none⟩), .string nm, .slice p n cb] w fun e w' => ∃ (c : Int) (S' : DS), e = .returned (.int .i64 c) ∧ S'.d = S.d ∧ AppR S.ps nm bs c S'.ps ∧ Dk B w' 0 S' ∧ Fr w (Fp S) w' (Fp S') := by
  have hl : S.ps.con.length = S.L.length := by unfold DS.ps; simp
  have ht : Con.tot S.ps.con = tot S.L := (tot_con S.L).symm
  by_cases hk : S.off = false ∧ okN nm
  · by_cases hf : ((∃ x ∈ S.L, x.nm = nm) ∨ S.L.length < 256) ∧ n + tot S.L ≤ S.room
    · have hc : (∃ x ∈ S.L, x.nm = nm) ∨ ((∀ x ∈ S.L, x.nm ≠ nm) ∧ S.L.length < 256) := by
        by_cases hx : ∃ x ∈ S.L, x.nm = nm
        · exact .inl hx
        · exact .inr ⟨fun x h1 e => hx ⟨x, h1, e⟩, hf.1.resolve_left hx⟩
      refine (append_any w h hk.1 hA hwr nm hk.2 hc p n cb bs hnb hnc hp hb hfb hbb (by omega)).mono ?_
      rintro e w' ⟨rfl, S', e1, e2, e3, e4⟩
      exact ⟨_, S', rfl, e1, .inr (.inr ⟨hk.1, hk.2, ⟨by rw [has_iff, hl]; exact hf.1, by rw [ht, ← hnb]; exact hf.2⟩, rfl, e2⟩), e3, e4⟩
    · refine (append_full w h nm hz p n cb bs hnb hb hfb hk.1 hk.2 hn hf).mono ?_
      rintro e w' ⟨rfl, e3, e4⟩
      exact ⟨103, S, rfl, rfl, .inr (.inl ⟨hk.1, hk.2, by rw [has_iff, hl, ht, ← hnb]; exact hf, rfl, rfl⟩), e3, e4⟩
  · refine (append_refused w h nm hz p n cb bs hnb hb hfb (fun e => hk ⟨e.1, e.2 nm (by simp)⟩)).mono ?_
    rintro e w' ⟨⟨c, rfl, hc⟩, e3, e4⟩
    exact ⟨c, S, rfl, rfl, .inl ⟨hc.1, hc.2, rfl⟩, e3, e4⟩

end Go.Proofs.YtlandfghodfjdaaGreat

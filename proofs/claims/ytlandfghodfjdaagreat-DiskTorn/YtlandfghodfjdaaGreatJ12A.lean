/- Names, refusals, find: whatever is asked. -/
import Derived.Test.YtlandfghodfjdaaGreatJ1K
namespace Go.Proofs.YtlandfghodfjdaaGreat
open Go.RowKit
open Go.MuLone (lock_free unlock_deferred run_callFunc_enter)
set_option linter.unusedVariables false
set_option linter.unusedSimpArgs false

/-- What refusal tells. -/
def Refs (off : Bool) (names : List ByteArray) (c : Int) : Prop := (off = true ∧ c = 104) ∨ (off = false ∧ (∃ s ∈ names, ¬ okN s) ∧ c = 101) ∨ (off = false ∧ (∀ s ∈ names, okN s) ∧ c = 0)

def MayE (s : ByteArray) (e : Ending) : Prop := ∃ b : Bool, e = .returned (.bool b) ∧ (b = true ↔ okN s)
def RefE (off : Bool) (names : List ByteArray) (e : Ending) : Prop := ∃ c : Int, e = .returned (.int .i64 c) ∧ Refs off names c

set_option maxRecDepth 100000 in
theorem mayBe_any (s : ByteArray) (w : World) (hz : s.size ≤ 140737488355328) : Calls Tryz.prog 43 #[.string s] w fun e w' => MayE s e ∧ w' = w := by
  obtain ⟨L, hL⟩ : ∃ L, s.size = L := ⟨_, rfl⟩
  have HL := hide hL
  by_cases h1 : L < 1
  · have hl1 : (L : Int) < 1 := by omega
    have HN : Hid (¬ okN s) := fun e => by have := e.1; rw [HL.out] at this; omega
    go_enter Tryz.func43, Tryz.ntmps43
    go_wp2_with fail
    go_ret
    exact ⟨⟨false, rfl, by simp, fun e => absurd e HN.out⟩, rfl⟩
  · by_cases h2 : 64 < L
    · have hl1 : ¬ (L : Int) < 1 := by omega
      have hl2 : (64 : Int) < (L : Int) := by omega
      have HN : Hid (¬ okN s) := fun e => by have := e.2.1; rw [HL.out] at this; omega
      go_enter Tryz.func43, Tryz.ntmps43
      go_wp2_with fail
      go_ret
      exact ⟨⟨false, rfl, by simp, fun e => absurd e HN.out⟩, rfl⟩
    · have hl1 : ¬ (L : Int) < 1 := by omega
      have hl2 : ¬ (64 : Int) < (L : Int) := by omega
      go_enter Tryz.func43, Tryz.ntmps43
      go_wp2_with fail
      go_loop [14] (fun t => ∃ i : Nat, i ≤ L ∧ t = .int .i64 i ∧ Hid (∀ (j : Nat) (h : j < s.size), j < i → 0 ≤ firstIdx letters (s[j]'h))) (fun t => L - (intOf t).toNat)
      case atStart => exact ⟨0, by omega, rfl, fun j _ h => by omega⟩
      case round =>
        obtain ⟨i, hi, rfl, HI⟩ := hrel
        by_cases hlt : i < L
        · have hlt' : (i : Int) < (L : Int) := by omega
          have hin : i < s.size := by omega
          obtain ⟨x, hx⟩ : ∃ x, (s[i]'hin).toNat = x := ⟨_, rfl⟩
          have hx2 : ((x : Int).toNat).toUInt8 = s[i]'hin := by rw [← hx]; simp
          obtain ⟨r, hr⟩ : ∃ r, firstIdx letters ((x : Int).toNat).toUInt8 = r := ⟨_, rfl⟩
          have HR : Hid (firstIdx letters (s[i]'hin) = r) := by show _ = _; rw [← hx2]; exact hr
          by_cases hr0 : r < 0
          · have HN : Hid (¬ okN s) := fun e => by have := e.2.2 i hin; rw [HR.out] at this; omega
            go_wp2_with (go_at_call 63; refine (sindex_any letters (x : Int) _).mono ?_; rintro e w' ⟨rfl, rfl⟩; simp only [hr])
            go_ret
            exact ⟨⟨false, rfl, by simp, fun e => absurd e HN.out⟩, rfl⟩
          · go_wp2_with (go_at_call 63; refine (sindex_any letters (x : Int) _).mono ?_; rintro e w' ⟨rfl, rfl⟩; simp only [hr])
            go_round
            case rel =>
              refine ⟨i + 1, by omega, by go_num, fun j hj h => ?_⟩
              by_cases e : j = i
              · subst e; rw [HR.out]; omega
              · exact HI.out j hj (by omega)
            case measure => simp [intOf]; omega
        · have hlt' : ¬ (i : Int) < (L : Int) := by omega
          have HN : Hid (okN s) := ⟨by rw [HL.out]; omega, by rw [HL.out]; omega, fun j hj => HI.out j hj (by rw [HL.out] at hj; omega)⟩
          go_wp2_with fail
          go_ret
          exact ⟨⟨true, rfl, fun _ => HN.out, fun _ => rfl⟩, rfl⟩

set_option maxRecDepth 100000 in
theorem refusal1_any {B : Nat} {S : DS} {lk : Int} (w : World) (h : Dk B w lk S) (s : ByteArray) (hzs : s.size ≤ 140737488355328) (g : Nat) (hgs : w.cell? ⟨g, 0, none⟩ = some (.string s)) :
    Calls Tryz.prog 48 #[.pointer (some ⟨S.d, 0, none⟩), .slice (some ⟨g, 0, none⟩) 1 1] w fun e w' => RefE S.off [s] e ∧ w' = w := by
  by_cases ho : S.off = true
  · have c4 := h.cell 4 (.bool true) (by rw [← ho]; rfl)
    clear h
    go_enter Tryz.func48, Tryz.ntmps48
    go_wp2_with fail
    go_ret
    exact ⟨⟨104, rfl, .inl ⟨ho, rfl⟩⟩, rfl⟩
  · have hoff : S.off = false := by simpa using ho
    have c4 := h.cell 4 (.bool false) (by rw [← hoff]; rfl)
    clear h ho
    go_enter Tryz.func48, Tryz.ntmps48
    go_wp2_with fail
    refine wp_loop_rounds 2 ?_
    rw [rounds_succ]
    go_wp2_with (go_at_call 43; refine (mayBe_any s _ hzs).mono ?_; rintro e w' ⟨hE, rfl⟩; obtain ⟨b0, rfl, hb⟩ := hE; have HB0 := hide hb; clear hb; cases b0)
    · go_ret
      exact ⟨⟨101, rfl, .inr (.inl ⟨hoff, ⟨s, by simp, fun e => by have := HB0.out.2 e; simp at this⟩, rfl⟩)⟩, rfl⟩
    · rw [rounds_succ]
      go_wp2_with fail
      go_ret
      exact ⟨⟨0, rfl, .inr (.inr ⟨hoff, fun x hx => by rw [List.mem_singleton.1 hx]; exact HB0.out.1 (by first | rfl | trivial), rfl⟩)⟩, rfl⟩

set_option maxRecDepth 100000 in
theorem refusal2_any {B : Nat} {S : DS} {lk : Int} (w : World) (h : Dk B w lk S) (s : ByteArray) (hzs : s.size ≤ 140737488355328) (t : ByteArray) (hzt : t.size ≤ 140737488355328) (g : Nat) (hgs : w.cell? ⟨g, 0, none⟩ = some (.string s)) (hgt : w.cell? ⟨g, 1, none⟩ = some (.string t)) :
    Calls Tryz.prog 48 #[.pointer (some ⟨S.d, 0, none⟩), .slice (some ⟨g, 0, none⟩) 2 2] w fun e w' => RefE S.off [s, t] e ∧ w' = w := by
  by_cases ho : S.off = true
  · have c4 := h.cell 4 (.bool true) (by rw [← ho]; rfl)
    clear h
    go_enter Tryz.func48, Tryz.ntmps48
    go_wp2_with fail
    go_ret
    exact ⟨⟨104, rfl, .inl ⟨ho, rfl⟩⟩, rfl⟩
  · have hoff : S.off = false := by simpa using ho
    have c4 := h.cell 4 (.bool false) (by rw [← hoff]; rfl)
    clear h ho
    go_enter Tryz.func48, Tryz.ntmps48
    go_wp2_with fail
    refine wp_loop_rounds 3 ?_
    rw [rounds_succ]
    go_wp2_with (go_at_call 43; refine (mayBe_any s _ hzs).mono ?_; rintro e w' ⟨hE, rfl⟩; obtain ⟨b0, rfl, hb⟩ := hE; have HB0 := hide hb; clear hb; cases b0)
    · go_ret
      exact ⟨⟨101, rfl, .inr (.inl ⟨hoff, ⟨s, by simp, fun e => by have := HB0.out.2 e; simp at this⟩, rfl⟩)⟩, rfl⟩
    · rw [rounds_succ]
      go_wp2_with (go_at_call 43; refine (mayBe_any t _ hzt).mono ?_; rintro e w' ⟨hE, rfl⟩; obtain ⟨b1, rfl, hb⟩ := hE; have HB1 := hide hb; clear hb; cases b1)
      · go_ret
        exact ⟨⟨101, rfl, .inr (.inl ⟨hoff, ⟨t, by simp, fun e => by have := HB1.out.2 e; simp at this⟩, rfl⟩)⟩, rfl⟩
      · rw [rounds_succ]
        go_wp2_with fail
        go_ret
        exact ⟨⟨0, rfl, .inr (.inr ⟨hoff, fun x hx => by rcases List.mem_cons.1 hx with rfl | hx; exact HB0.out.1 (by first | rfl | trivial); rw [List.mem_singleton.1 hx]; exact HB1.out.1 (by first | rfl | trivial), rfl⟩)⟩, rfl⟩

/-- What find tells. -/
def Finds (S : DS) (nm : ByteArray) (v : Value) (c : Int) : Prop := (c ≠ 0 ∧ v = .pointer none ∧ (Refs S.off [nm] c ∨ (S.off = false ∧ okN nm ∧ (∀ x ∈ S.L, x.nm ≠ nm) ∧ c = 102))) ∨ (c = 0 ∧ S.off = false ∧ okN nm ∧ ∃ x ∈ S.L, x.nm = nm ∧ v = .pointer (some ⟨x.f, 0, none⟩))

def FindE (S : DS) (nm : ByteArray) (e : Ending) : Prop := ∃ (q : Option Addr) (c : Int), e = .returned (.tuple #[.pointer q, .int .i64 c]) ∧ Finds S nm (.pointer q) c

set_option maxRecDepth 100000 in
theorem find_any {B : Nat} {S : DS} {lk : Int} (w : World) (h : Dk B w lk S) (nm : ByteArray) (hz : nm.size ≤ 140737488355328) :
    Calls Tryz.prog 51 #[.pointer (some ⟨S.d, 0, none⟩), .string nm] w fun e w' => FindE S nm e ∧ Below w.heap.size w w' := by
  by_cases hk : S.off = false ∧ okN nm
  · by_cases hx : ∃ x ∈ S.L, x.nm = nm
    · obtain ⟨x, hx, rfl⟩ := hx
      refine (find_ok w h hk.1 x hx hk.2).mono ?_
      rintro e w' ⟨rfl, hb⟩
      exact ⟨⟨_, 0, rfl, .inr ⟨rfl, hk.1, hk.2, x, hx, rfl, rfl⟩⟩, hb⟩
    · have hx' : ∀ x ∈ S.L, x.nm ≠ nm := fun x h1 e => hx ⟨x, h1, e⟩
      refine (find_no w h hk.1 nm hx' hk.2).mono ?_
      rintro e w' ⟨rfl, hb⟩
      exact ⟨⟨none, 102, rfl, .inl ⟨by decide, rfl, .inr ⟨hk.1, hk.2, hx', rfl⟩⟩⟩, hb⟩
  · have hb : Below w.heap.size w (w.alloc (.cells #[.string nm] 9 (0, 0))) := (Below.refl _ _).alloc (Nat.le_refl _) _
    have HR := hide (refusal1_any (w.alloc (.cells #[.string nm] 9 (0, 0))) (h.below hb) nm hz w.heap.size (by simp))
    have HB := hide hb
    have HK := hide hk
    clear h hb hk
    go_enter Tryz.func51, Tryz.ntmps51
    go_upto_region 2 with (go_at_call 48; refine HR.out.mono ?_; rintro e w' ⟨hE, rfl⟩; obtain ⟨c, rfl, hc⟩ := hE; have HC := hide hc; clear hc HR)
    have hc0 : ¬ c = 0 := by
      rcases HC.out with ⟨_, e⟩ | ⟨_, _, e⟩ | ⟨h1, h2, _⟩
      · omega
      · omega
      · exact absurd ⟨h1, h2 nm (by simp)⟩ HK.out
    go_wp2_with fail
    go_ret2
    exact ⟨⟨none, c, rfl, .inl ⟨hc0, rfl, .inl HC.out⟩⟩, HB.out⟩

end Go.Proofs.YtlandfghodfjdaaGreat

/- limbAt, sign, Check, checkBoth, trim, fresh, tell, compare. -/
import Derived.Test.YtanijhgmgldiiaaB
namespace Go.Proofs.Ytanijhgmgldiiaa
open Go.RowKit
open M
set_option linter.unusedVariables false
set_option linter.unusedSimpArgs false

theorem ret_int {k : IntKind} {a b : Int} (h : a = b) : Ending.returned (.int k a) = .returned (.int k b) := by rw [h]

set_option maxRecDepth 100000 in
set_option maxHeartbeats 400000 in
theorem limbAt_any {S : Nat → Prop} (v : Value) (k N i : Nat) (w : World) (h : RowX S w v k N) (hi : i ≤ 70368744177664) :
    Calls Try.prog 46 #[v, .int .i64 i] w fun e w' => e = .returned (.int .u64 (dg N i : Nat)) ∧ w' = w := by
  obtain ⟨hN, hk, ad, cap, rfl, hc, hcell⟩ := h
  by_cases hlt : i < k
  · obtain ⟨g, o, rfl, _, hj⟩ := hcell (by omega)
    have hlt' : (i : Int) < (k : Int) := by omega
    have hci := hj i hlt
    have hd := dg_lt N i
    clear hj hcell hN
    generalize dg N i = x at *
    go_enter Try.func46, Try.ntmps46
    go_wp2
    go_ret
    refine ⟨?_, rfl⟩
    apply ret_int
    omega
  · have hge : ¬ (i : Int) < (k : Int) := by omega
    have hz := dg_high hN (show k ≤ i from by omega)
    clear hcell hN
    go_enter Try.func46, Try.ntmps46
    go_wp2
    go_ret
    exact ⟨rfl, rfl⟩

theorem sign_any (b : Bool) (w : World) : Calls Try.prog 43 #[.bool b] w fun e w' => e = .returned (.int .i64 (if b then 1 else -1)) ∧ w' = w := by
  cases b <;> go_enter Try.func43, Try.ntmps43 <;> go_wp2 <;> go_ret <;> exact ⟨rfl, rfl⟩


theorem sign_true (w : World) : Calls Try.prog 43 #[.bool true] w fun e w' => e = .returned (.int .i64 1) ∧ w' = w := sign_any true w
theorem sign_false (w : World) : Calls Try.prog 43 #[.bool false] w fun e w' => e = .returned (.int .i64 (-1)) ∧ w' = w := sign_any false w

/-- What Check tells. -/
def chk (k N : Nat) : Int := if 8192 < k then 21 else if 0 < k ∧ dg N (k - 1) = 0 then 20 else 0

theorem chk_nrm {k N : Nat} (h : Nrm k N) (hk : k ≤ 8192) : chk k N = 0 := by
  unfold chk
  rw [if_neg (by omega), if_neg]
  rintro ⟨h1, h2⟩
  obtain ⟨m, rfl⟩ : ∃ m, k = m + 1 := ⟨k - 1, by omega⟩
  exact h.top h2

theorem nrm_chk {k N : Nat} (hN : N < 4294967296 ^ k) (h : chk k N = 0) : Nrm k N ∧ k ≤ 8192 := by
  unfold chk at h
  split at h
  · simp at h
  · split at h
    · simp at h
    · rename_i h1 h2
      refine ⟨?_, by omega⟩
      by_cases h0 : k = 0
      · subst h0; exact ⟨hN, .inl rfl⟩
      · obtain ⟨m, rfl⟩ : ∃ m, k = m + 1 := ⟨k - 1, by omega⟩
        exact Nrm.of_top hN (fun e => h2 ⟨by omega, e⟩)

set_option maxRecDepth 100000 in
set_option maxHeartbeats 400000 in
theorem check_any {S : Nat → Prop} (v : Value) (k N : Nat) (w : World) (h : RowX S w v k N) :
    Calls Try.prog 14 #[v] w fun e w' => e = .returned (.int .i64 (chk k N)) ∧ w' = w := by
  obtain ⟨hN, hk, ad, cap, rfl, hc, hcell⟩ := h
  unfold chk
  by_cases h1 : 8192 < k
  · rw [if_pos h1]
    have h1' : (8192 : Int) < (k : Int) := by omega
    clear hcell
    go_enter Try.func14, Try.ntmps14
    go_wp2
    go_ret
    exact ⟨rfl, rfl⟩
  · rw [if_neg h1]
    have h1' : ¬ (8192 : Int) < (k : Int) := by omega
    by_cases h0 : k = 0
    · subst h0
      rw [if_neg (by omega)]
      clear hcell
      go_enter Try.func14, Try.ntmps14
      go_wp2
      go_ret
      exact ⟨rfl, rfl⟩
    · obtain ⟨g, o, rfl, _, hj⟩ := hcell (by omega)
      obtain ⟨m, rfl⟩ : ∃ m, k = m + 1 := ⟨k - 1, by omega⟩
      have hci := hj m (by omega)
      have h2' : (0 : Int) < ((m + 1 : Nat) : Int) := by omega
      clear hj hcell hN h0
      show Calls _ _ _ _ fun e w' => e = .returned (.int .i64 (if 0 < m + 1 ∧ dg N m = 0 then 20 else 0)) ∧ w' = w
      generalize dg N m = x at *
      by_cases hx : x = 0
      · subst hx
        rw [if_pos ⟨by omega, rfl⟩]
        go_enter Try.func14, Try.ntmps14
        go_wp2
        go_ret
        exact ⟨rfl, rfl⟩
      · rw [if_neg (fun h => hx h.2)]
        have hx' : ((x : Int) == 0) = false := by rw [beq_eq_false_iff_ne]; omega
        clear hx
        go_enter Try.func14, Try.ntmps14
        go_wp2
        go_ret
        exact ⟨rfl, rfl⟩

theorem checkBoth_any {S S' : Nat → Prop} (v u : Value) (k N m P : Nat) (w : World) (h : RowX S w v k N) (h' : RowX S' w u m P) :
    Calls Try.prog 36 #[v, u] w fun e w' => e = .returned (.int .i64 (if chk k N = 0 then chk m P else chk k N)) ∧ w' = w := by
  by_cases h0 : chk k N = 0
  · rw [if_pos h0]
    have hc := check_any v k N w h
    rw [h0] at hc
    have Hc := hide hc
    clear hc
    go_enter Try.func36, Try.ntmps36
    go_wp2_with fail
    refine Hc.out.mono ?_
    rintro e w' ⟨rfl, rfl⟩
    go_wp2_with fail
    refine (check_any u m P _ h').mono ?_
    rintro e w' ⟨rfl, rfl⟩
    go_wp2_with fail
    go_ret
    exact ⟨rfl, rfl⟩
  · rw [if_neg h0]
    have hc := check_any v k N w h
    have h0' : (chk k N == 0) = false := by rw [beq_eq_false_iff_ne]; exact h0
    have h0'' : (chk k N != 0) = true := by rw [bne_iff_ne]; exact h0
    have Hc := hide hc
    clear hc
    generalize chk k N = c at *
    go_enter Try.func36, Try.ntmps36
    go_wp2_with fail
    refine Hc.out.mono ?_
    rintro e w' ⟨rfl, rfl⟩
    go_wp2_with fail
    go_ret
    exact ⟨rfl, rfl⟩

theorem checkBoth_ok {S S' : Nat → Prop} (v u : Value) (k N m P : Nat) (w : World) (h : RowX S w v k N) (h' : RowX S' w u m P) (hn : Nrm k N) (hn' : Nrm m P) (hk : k ≤ 8192) (hm : m ≤ 8192) :
    Calls Try.prog 36 #[v, u] w fun e w' => e = .returned (.int .i64 0) ∧ w' = w := by
  have := checkBoth_any v u k N m P w h h'
  rwa [if_pos (chk_nrm hn hk), chk_nrm hn' hm] at this

theorem check_ok {S : Nat → Prop} (v : Value) (k N : Nat) (w : World) (h : RowX S w v k N) (hn : Nrm k N) (hk : k ≤ 8192) :
    Calls Try.prog 14 #[v] w fun e w' => e = .returned (.int .i64 0) ∧ w' = w := by
  have := check_any v k N w h
  rwa [chk_nrm hn hk] at this

set_option maxRecDepth 100000 in
set_option maxHeartbeats 400000 in
theorem trim_any {S : Nat → Prop} (v : Value) (k N : Nat) (w : World) (h : RowX S w v k N) :
    Calls Try.prog 45 #[v] w fun e w' => ∃ u, e = .returned u ∧ ∃ n, RowX S w u n N ∧ Nrm n N ∧ n ≤ k ∧ w' = w := by
  obtain ⟨hN, hk, ad, cap, rfl, hc, hcell⟩ := h
  have HC : Hid (0 < k → ∃ g o, ad = some ⟨g, o, none⟩ ∧ S g ∧ ∀ j, j < k → w.cell? ⟨g, o + j, none⟩ = some (.int .u32 (dg N j : Nat))) := hcell
  have HN : Hid (N < 4294967296 ^ k) := hN
  clear hcell hN
  go_enter Try.func45, Try.ntmps45
  go_wp2_with fail
  go_loop [3] (fun t3 => ∃ n : Nat, n ≤ k ∧ t3 = .int .i64 n ∧ Hid (N < 4294967296 ^ n)) (fun t3 => (intOf t3).toNat)
  case atStart => exact ⟨k, by omega, rfl, HN⟩
  case round =>
    obtain ⟨n, hn, rfl, Hn⟩ := hrel
    have fin : Hid (Nrm n N → ∃ (u : Value) (m : Nat), Value.slice ad n n = u ∧ RowX S w u m N ∧ Nrm m N ∧ m ≤ k) := fun hnr =>
      ⟨_, n, rfl, ⟨Hn.out, by omega, ad, n, rfl, Nat.le_refl _, fun h0 => by obtain ⟨g, o, h1, h2, h3⟩ := HC.out (by omega); exact ⟨g, o, h1, h2, fun j hj => h3 j (by omega)⟩⟩, hnr, hn⟩
    have hncap : n ≤ cap := by omega
    by_cases h0 : n = 0
    · subst h0
      go_wp2_with fail
      go_ret
      obtain ⟨u, m, h1, h2⟩ := fin.out ⟨Hn.out, .inl rfl⟩
      exact ⟨u, by rw [← h1]; rfl, m, h2.1, h2.2.1, h2.2.2, rfl⟩
    · obtain ⟨m, rfl⟩ : ∃ m, n = m + 1 := ⟨n - 1, by omega⟩
      obtain ⟨g, o, rfl, hS, hj⟩ := HC.out (by omega)
      have hci := hj m (by omega)
      have h2' : (0 : Int) < ((m + 1 : Nat) : Int) := by omega
      have Hd : Hid (dg N m = 0 → N < 4294967296 ^ m) := fun h => Nrm.drop Hn.out h
      have Ht : Hid (dg N m ≠ 0 → Nrm (m + 1) N) := fun h => Nrm.of_top Hn.out h
      clear hj h0 HC HN
      generalize dg N m = x at *
      by_cases hx : x = 0
      · subst hx
        go_wp2_with fail
        go_round
        case rel => exact ⟨m, by omega, by go_num, Hd.out rfl⟩
        case measure => simp [intOf]
      · have hx' : ((x : Int) == 0) = false := by rw [beq_eq_false_iff_ne]; omega
        have Hx : Hid (x ≠ 0) := hx
        clear hx
        go_wp2_with fail
        go_ret
        obtain ⟨u, n, h1, h2⟩ := fin.out (Ht.out Hx.out)
        exact ⟨u, by rw [← h1]; rfl, n, h2.1, h2.2.1, h2.2.2, rfl⟩


set_option maxHeartbeats 400000 in
theorem trim_val {S : Nat → Prop} (ad : Option Addr) (cap k N n0 : Nat) (w : World) (h : RowX S w (.slice ad k cap) k N) (hn0 : Nrm n0 N) :
    Calls Try.prog 45 #[.slice ad k cap] w fun e w' => e = .returned (.slice ad n0 n0) ∧ w' = w := by
  obtain ⟨hN, hk, ad', cap', hv, hc, hcell⟩ := h
  simp only [Value.slice.injEq, true_and] at hv
  obtain ⟨rfl, rfl⟩ := hv
  have HC : Hid (0 < k → ∃ g o, ad = some ⟨g, o, none⟩ ∧ S g ∧ ∀ j, j < k → w.cell? ⟨g, o + j, none⟩ = some (.int .u32 (dg N j : Nat))) := hcell
  have HN : Hid (N < 4294967296 ^ k) := hN
  have H0 := hide hn0
  clear hcell hN hn0
  go_enter Try.func45, Try.ntmps45
  go_wp2_with fail
  go_loop [3] (fun t3 => ∃ n : Nat, n ≤ k ∧ t3 = .int .i64 n ∧ Hid (N < 4294967296 ^ n)) (fun t3 => (intOf t3).toNat)
  case atStart => exact ⟨k, by omega, rfl, HN⟩
  case round =>
    obtain ⟨n, hn, rfl, Hn⟩ := hrel
    have hncap : n ≤ cap := by omega
    by_cases h0 : n = 0
    · have e0 : Hid (n0 = 0) := H0.out.uniq (show Nrm 0 N from ⟨by rw [← h0]; exact Hn.out, .inl rfl⟩)
      subst h0
      go_wp2_with fail
      go_ret
      exact ⟨by rw [e0.out]; rfl, rfl⟩
    · obtain ⟨m, rfl⟩ : ∃ m, n = m + 1 := ⟨n - 1, by omega⟩
      obtain ⟨g, o, rfl, hS, hj⟩ := HC.out (by omega)
      have hci := hj m (by omega)
      have h2' : (0 : Int) < ((m + 1 : Nat) : Int) := by omega
      have Hd : Hid (dg N m = 0 → N < 4294967296 ^ m) := fun h => Nrm.drop Hn.out h
      have Ht : Hid (dg N m ≠ 0 → n0 = m + 1) := fun h => H0.out.uniq (Nrm.of_top Hn.out h)
      clear hj h0 HC HN
      generalize dg N m = x at *
      by_cases hx : x = 0
      · subst hx
        go_wp2_with fail
        go_round
        case rel => exact ⟨m, by omega, by go_num, Hd.out rfl⟩
        case measure => simp [intOf]
      · have hx' : ((x : Int) == 0) = false := by rw [beq_eq_false_iff_ne]; omega
        have e0 : Hid (n0 = m + 1) := Ht.out hx
        clear hx Ht
        go_wp2_with fail
        go_ret
        exact ⟨by rw [e0.out]; rfl, rfl⟩

theorem trim_row {S : Nat → Prop} {w : World} {ad : Option Addr} {cap k N n : Nat} (h : RowX S w (.slice ad k cap) k N) (hn : Nrm n N) : RowX S w (.slice ad n n) n N ∧ n ≤ k := by
  have hle := hn.le h.1
  obtain ⟨hN, hk, ad', cap', hv, hc, hcell⟩ := h
  simp only [Value.slice.injEq, true_and] at hv
  obtain ⟨rfl, rfl⟩ := hv
  exact ⟨⟨hn.1, by omega, ad, n, rfl, Nat.le_refl _, fun h0 => by obtain ⟨g, o, h1, h2, h3⟩ := hcell (by omega); exact ⟨g, o, h1, h2, fun j hj => h3 j (by omega)⟩⟩, hle⟩

set_option maxRecDepth 100000 in
set_option maxHeartbeats 400000 in
theorem fresh_any {S : Nat → Prop} (v : Value) (k N : Nat) (w : World) (h : RowX S w v k N) :
    Calls Try.prog 32 #[v] w fun e w' => ∃ u, e = .returned u ∧ Own w' w.heap.size u k N ∧ Below w.heap.size w w' := by
  obtain ⟨i5, hi5⟩ := info32
  have Hi : Hid (Try.prog.info? 24 = some i5 ∧ i5.zero = some (.int .u32 0) ∧ i5.size = 1 ∧ i5.bytes = 4) := hi5
  clear hi5
  have hb1 : Below w.heap.size w (w.alloc (.cells (madeCells #[Value.int .u32 0] k) 24)) := (Below.refl _ _).alloc (Nat.le_refl _) _
  obtain ⟨w', hrun, hg', hb'⟩ := copy_new (w.alloc (.cells (madeCells #[Value.int .u32 0] k) 24)) v k N k w.heap.size 23 22 3 Try.underlying23 (h.below hb1) (Nat.le_refl _) (make_block w k)
  have HF : Hid (Own w' w.heap.size (.slice (some ⟨w.heap.size, 0, none⟩) k k) k N ∧ Below w.heap.size w w') :=
    ⟨own_of_block h.1 h.2.1 (Nat.le_refl _) hg', hb1.trans hb'⟩
  clear hg' hb' hb1
  obtain ⟨hN, hk, ad, cap, rfl, hc, hcell⟩ := h
  clear hcell hN
  go_enter Try.func32, Try.ntmps32
  go_wp2_with (at_make; refine wpList_make_row _ rfl _ _ _ rfl 24 i5 (.int .u32 0) Try.underlying23 Hi.out.1 Hi.out.2.1 Hi.out.2.2.1 rfl .i64 .i64 k rfl rfl (by rw [Hi.out.2.2.2]; omega) (by omega) ?_)
  go_ret
  exact ⟨_, rfl, HF.out⟩

set_option maxHeartbeats 400000 in
theorem tell_any {S : Nat → Prop} (v : Value) (k N : Nat) (w : World) (h : RowX S w v k N) :
    Calls Try.prog 51 #[v] w fun e w' => ∃ u c, e = .returned (.tuple #[u, .int .i64 c]) ∧ Told w' w.heap.size u c N ∧ Below w.heap.size w w' := by
  go_enter Try.func51, Try.ntmps51
  go_wp2_with fail
  refine (trim_any v k N w h).mono ?_
  rintro e w1 ⟨u, rfl, n, hrow, hnrm, hnk, rfl⟩
  have Hrow := hide hrow
  have Hn := hide hnrm
  have Hiff := hide hnrm.fits
  obtain ⟨_, hk', ad, cap, rfl, _, _⟩ := hrow
  clear hnrm h
  by_cases hle : n ≤ 8192
  · have hle' : ¬ (8192 : Int) < (n : Int) := by omega
    go_wp2_with fail
    refine (fresh_any _ n N _ Hrow.out).mono ?_
    rintro e w2 ⟨u2, rfl, hown, hb⟩
    have HF := hide (And.intro hown hb)
    clear hown hb
    go_wp2_with fail
    go_ret2
    exact ⟨u2, 0, rfl, .inl ⟨Hiff.out.1 hle, rfl, n, HF.out.1, Hn.out⟩, HF.out.2⟩
  · have hle' : (8192 : Int) < (n : Int) := by omega
    have HL := hide (fun h => hle (Hiff.out.2 h))
    go_wp2_with fail
    go_ret2
    exact ⟨_, 21, rfl, .inr ⟨HL.out, rfl, rfl⟩, Below.refl _ _⟩

end Go.Proofs.Ytanijhgmgldiiaa

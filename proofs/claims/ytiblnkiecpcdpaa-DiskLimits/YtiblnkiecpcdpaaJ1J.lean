/- The other methods of a disk: what they tell, what they leave. -/
import Derived.Test.YtiblnkiecpcdpaaJ1I
import Derived.Lib.SliceRun
namespace Go.Proofs.Ytiblnkiecpcdpaa
open Go.RowKit
open Go.MuLone (lock_free unlock_deferred run_callFunc_enter)
set_option linter.unusedVariables false
set_option linter.unusedSimpArgs false

set_option maxRecDepth 100000 in
theorem bclone_any (v : Value) (bs : List Nat) (w : World) (h : IsBy w v bs) (hl : bs.length ≤ 1000000000) :
    Calls Try.prog 37 #[v] w fun e w' => ∃ v2, e = .returned v2 ∧ OB w.heap.size w bs v2 w' := by
  obtain ⟨i5, hi5⟩ := info5
  have Hi := hide hi5
  clear hi5
  rcases by_news h with ⟨rfl, rfl⟩ | ⟨ad, cap, rfl, hnews⟩
  · clear h
    have hnl := fun w => Lib.run_eql_slice_nil (P := Try.prog) w 34 5 none 0 0 0 0 Try.underlying34
    go_enter Try.func37, Try.ntmps37
    go_wp2
    go_ret
    exact ⟨_, rfl, OB.nil w⟩
  · have HN : Hid (∀ j u, (bytesV bs)[j]? = some u → (w.alloc (.cells #[] 5)).cell? (ad.add j) = some u) := fun j u hj => by
      have := hnews j u hj
      rw [Below.cell ((Below.refl w.heap.size w).alloc (Nat.le_refl _) (.cells #[] 5)) (p := ad.add j) (World.block_lt_of_cell? _ _ this)]
      exact this
    have HO : Hid ((w.alloc (.cells #[] 5)).ownsRow w.heap.size 5 1 (.slice (some ⟨w.heap.size, 0, none⟩) 0 0) 0 []) := ⟨rfl, .inr ⟨w.heap.size, 0, #[], rfl, Nat.le_refl _, heap_alloc_new w _, Nat.le_refl _, by unfold maxLen; omega, rfl, rfl⟩⟩
    obtain ⟨n, hn⟩ : ∃ n, bs.length = n := ⟨_, rfl⟩
    rw [hn] at hl ⊢
    have Hn := hide hn
    clear hn h hnews
    have hnl := fun w => Lib.run_eql_slice_nil (P := Try.prog) w 34 5 (some ad) n cap 0 0 Try.underlying34
    go_enter Try.func37, Try.ntmps37
    go_wp2_with (at_builtin; refine wpList_append_own_at _ rfl _ _ _ rfl w.heap.size 5 i5 (.int .u8 0) 1 1 Try.underlying34 Hi.out.1 Hi.out.2.1 Hi.out.2.2.1 Hi.out.2.2.2 rfl (by decide) (.slice (some ⟨w.heap.size, 0, none⟩) 0 0) 0 [] rfl HO.out ad n cap (bytesV bs) rfl ?f2 ?f3 (bytesV_cell bs) ?f4 ?f5 ?f7 ?f6)
    case f2 => first | exact Hn.out | (rw [Nat.mul_one, ← Hn.out]; simp)
    case f3 => exact HN.out
    case f4 => unfold maxLen; omega
    case f5 => omega
    case f7 => simp
    case f6 =>
      intro v2 w2 ho2 hg2 _ hat
      have HF : Hid (OB w.heap.size w bs v2 w2) := by
        refine ⟨by simpa [Hn.out, bytesV] using ho2, ((Below.refl w.heap.size w).alloc (Nat.le_refl _) _).trans (grown_below hg2 (fun g hg => ?_) (by simp)), Nat.le_refl _⟩
        simp [Value.ownBlock] at hg; omega
      clear ho2 hg2 hat
      go_wp2_with fail
      go_ret
      exact ⟨_, rfl, HF.out⟩

set_option maxRecDepth 100000 in
theorem writes_any {B : Nat} {S : DS} (w : World) (h : Dk B w 0 S) : Calls Try.prog 20 #[.pointer (some ⟨S.d, 0, none⟩)] w fun e w' => e = .returned (.int .i64 (S.wr : Int)) ∧ Dk B w' 0 S ∧ Fr w (Fp S) w' (Fp S) := by
  have l1 := h.cell 0 (.int .i32 0) rfl
  have l2 := frozen_of h.dk 0
  have HE : Hid (Dk B (w.setCell ⟨S.d, 0, none⟩ (.int .i32 1)) 1 S ∧ Fr w (Fp S) (w.setCell ⟨S.d, 0, none⟩ (.int .i32 1)) (Fp S)) := ⟨h.setLock 1, Fr.setCell (.inl rfl) _⟩
  clear h
  go_enter_defers Try.func20, Try.ntmps20
  go_wp2_with (go_at_call 34; refine (lock_free muLib ⟨S.d, 0, none⟩ _ l1 l2).mono ?_; rintro e w2 ⟨rfl, hw2⟩; have H2 : Hid (Dk B w2 1 S ∧ Fr w (Fp S) w2 (Fp S)) := (by rw [hw2]; exact HE.out); have c8 := H2.out.1.cell 8 (.int .i64 (S.wr : Int)) rfl; clear hw2 l1 l2)
  have HZ := hide (door_of H2.out.1 rfl)
  refine leaves_cons (f := 35) (args := #[.pointer (some ⟨S.d, 0, none⟩)]) (by simp) (by simp [go_sem]) ?_
  refine (unlock_deferred muLib ⟨S.d, 0, none⟩ .returning _ ?_ ?_).mono ?_
  · exact HZ.out.1
  · exact HZ.out.2.1
  rintro e u' w'' ⟨rfl, rfl, rfl⟩
  exact ⟨_, results_tmp rfl _ _ _, rfl, HZ.out.2.2.1, H2.out.2.trans HZ.out.2.2.2⟩

set_option maxRecDepth 100000 in
theorem sure_any {B : Nat} {S : DS} (w : World) (h : Dk B w 0 S) (hoff : S.off = false) (x : Fi) (hx : x ∈ S.L) (hs : okN x.nm) : Calls Try.prog 14 #[.pointer (some ⟨S.d, 0, none⟩), .string x.nm] w fun e w' => e = .returned (.tuple #[.int .i64 (x.su : Int), .int .i64 0]) ∧ Dk B w' 0 S ∧ Fr w (Fp S) w' (Fp S) := by
  have l1 := h.cell 0 (.int .i32 0) rfl
  have l2 := frozen_of h.dk 0
  have HE : Hid (Dk B (w.setCell ⟨S.d, 0, none⟩ (.int .i32 1)) 1 S ∧ Fr w (Fp S) (w.setCell ⟨S.d, 0, none⟩ (.int .i32 1)) (Fp S)) := ⟨h.setLock 1, Fr.setCell (.inl rfl) _⟩
  have HFI : Hid (∀ w2, Dk B w2 1 S → Calls Try.prog 38 #[.pointer (some ⟨S.d, 0, none⟩), .string x.nm] w2 fun e w' => e = .returned (.tuple #[.pointer (some ⟨x.f, 0, none⟩), .int .i64 0]) ∧ Below w2.heap.size w2 w') := fun w2 h2 => find_ok w2 h2 hoff x hx hs
  clear h hs
  go_enter_defers Try.func14, Try.ntmps14
  go_wp2_with (first | (go_at_call 34; refine (lock_free muLib ⟨S.d, 0, none⟩ _ l1 l2).mono ?_; rintro e w2 ⟨rfl, hw2⟩; have H2 : Hid (Dk B w2 1 S ∧ Fr w (Fp S) w2 (Fp S)) := (by rw [hw2]; exact HE.out); clear hw2 l1 l2) | (go_at_call 38; refine (HFI.out _ H2.out.1).mono ?_; rintro e w3 ⟨rfl, hB3⟩; have H3 : Hid (Dk B w3 1 S ∧ Fr w (Fp S) w3 (Fp S)) := ⟨H2.out.1.below hB3, H2.out.2.trans (Fr.of_below hB3)⟩; have c1 := H3.out.1.scell hx; clear hB3))
  have HZ := hide (door_of H3.out.1 rfl)
  refine leaves_cons (f := 35) (args := #[.pointer (some ⟨S.d, 0, none⟩)]) (by simp) (by simp [go_sem]) ?_
  refine (unlock_deferred muLib ⟨S.d, 0, none⟩ .returning _ ?_ ?_).mono ?_
  · exact HZ.out.1
  · exact HZ.out.2.1
  rintro e u' w'' ⟨rfl, rfl, rfl⟩
  exact ⟨_, results_tmp2 rfl _ _ _, rfl, HZ.out.2.2.1, H3.out.2.trans HZ.out.2.2.2⟩

set_option maxRecDepth 100000 in
set_option maxHeartbeats 1000000 in
theorem read_any {B : Nat} {S : DS} (w : World) (h : Dk B w 0 S) (hoff : S.off = false) (x : Fi) (hx : x ∈ S.L) (hs : okN x.nm) : Calls Try.prog 30 #[.pointer (some ⟨S.d, 0, none⟩), .string x.nm] w fun e w' => ∃ v2, e = .returned (.tuple #[v2, .int .i64 0]) ∧ (Dk B w' 0 S ∧ Fr w (Fp S) w' (Fp S)) ∧ w'.ownsRow w.heap.size 5 1 v2 x.bs.length (bytesV x.bs) ∧ ∀ k, v2.ownBlock = some k → ¬ Fp S k := by
  obtain ⟨p, cap, hv⟩ := h.fslice hx
  have HV := hide hv
  have l1 := h.cell 0 (.int .i32 0) rfl
  have l2 := frozen_of h.dk 0
  have HE : Hid (Dk B (w.setCell ⟨S.d, 0, none⟩ (.int .i32 1)) 1 S ∧ Fr w (Fp S) (w.setCell ⟨S.d, 0, none⟩ (.int .i32 1)) (Fp S)) := ⟨h.setLock 1, Fr.setCell (.inl rfl) _⟩
  have HFI : Hid (∀ w2, Dk B w2 1 S → Calls Try.prog 38 #[.pointer (some ⟨S.d, 0, none⟩), .string x.nm] w2 fun e w' => e = .returned (.tuple #[.pointer (some ⟨x.f, 0, none⟩), .int .i64 0]) ∧ Below w2.heap.size w2 w') := fun w2 h2 => find_ok w2 h2 hoff x hx hs
  have HC : Hid (∀ w3, Dk B w3 1 S → Calls Try.prog 37 #[.slice p x.bs.length cap] w3 fun e w' => ∃ v2, e = .returned v2 ∧ OB w3.heap.size w3 x.bs v2 w') := fun w3 h3 => bclone_any _ x.bs w3 (by
    have ho := h3.ow x hx
    rw [hv] at ho
    exact OB.by_ ⟨ho, Below.refl B w3, h3.lt⟩) (by
      have := Con.tot_upd (con_nodup h3) (con_mem hx) [] 0
      have h4 := h3.rm
      rw [tot_con] at h4
      have e : S.ps.con = S.L.map Fi.con := rfl
      rw [e] at this; simp at this; omega)
  clear h hs hv
  go_enter_defers Try.func30, Try.ntmps30
  go_wp2_with (first | (go_at_call 34; refine (lock_free muLib ⟨S.d, 0, none⟩ _ l1 l2).mono ?_; rintro e w2 ⟨rfl, hw2⟩; have H2 : Hid (Dk B w2 1 S ∧ Fr w (Fp S) w2 (Fp S)) := (by rw [hw2]; exact HE.out); clear hw2 l1 l2) | (go_at_call 38; refine (HFI.out _ H2.out.1).mono ?_; rintro e w3 ⟨rfl, hB3⟩; have H3 : Hid (Dk B w3 1 S ∧ Fr w (Fp S) w3 (Fp S)) := ⟨H2.out.1.below hB3, H2.out.2.trans (Fr.of_below hB3)⟩; have c0 : w3.cell? ⟨x.f, 0, none⟩ = some (.slice p x.bs.length cap) := (by rw [← HV.out]; exact H3.out.1.fcell hx); clear hB3) | (go_at_call 37; refine (HC.out _ H3.out.1).mono ?_; rintro e w4 ⟨v2, rfl, hO⟩; have H4 : Hid (OB w3.heap.size w3 x.bs v2 w4) := hO; clear hO))
  have hD := H3.out.1.below H4.out.bel
  have HZ := hide (door_of hD rfl)
  have HB : Hid (∀ k, v2.ownBlock = some k → w3.heap.size ≤ k ∧ k < w4.heap.size ∧ k ≠ S.d) := fun k hk => ⟨(H4.out.own.lt k hk).1, (H4.out.own.lt k hk).2, fun e => by have := (H4.out.own.lt k hk).1; have := heap_lt H3.out.1.dk; omega⟩
  refine leaves_cons (f := 35) (args := #[.pointer (some ⟨S.d, 0, none⟩)]) (by simp) (by simp [go_sem]) ?_
  refine (unlock_deferred muLib ⟨S.d, 0, none⟩ .returning _ ?_ ?_).mono ?_
  · exact HZ.out.1
  · exact HZ.out.2.1
  rintro e u' w'' ⟨rfl, rfl, rfl⟩
  refine ⟨_, results_tmp2 rfl _ _ _, _, rfl, ⟨HZ.out.2.2.1, (H3.out.2.trans (Fr.of_below H4.out.bel)).trans HZ.out.2.2.2⟩, ⟨H4.out.own.1, ?_⟩, fun k hk e => by have := (HB.out k hk).1; have := H3.out.1.fpLt k e; omega⟩
  have ho : (w4.setCell ⟨S.d, 0, none⟩ (.int .i32 0)).ownsRow w3.heap.size 5 1 v2 x.bs.length (bytesV x.bs) := ownsRow_keep H4.out.own fun g hg => Below.heap_setCell _ _ _ _ (fun e => (HB.out g hg).2.2 e)
  rcases ho.2 with e | ⟨g, cap, cur, e1, e2, e3⟩
  · exact .inl e
  · exact .inr ⟨g, cap, cur, e1, Nat.le_trans (H3.out.2.size) e2, e3⟩

set_option maxRecDepth 100000 in
theorem read_no {B : Nat} {S : DS} (w : World) (h : Dk B w 0 S) (hoff : S.off = false) (nm : ByteArray) (hx : ∀ x ∈ S.L, x.nm ≠ nm) (hs : okN nm) : Calls Try.prog 30 #[.pointer (some ⟨S.d, 0, none⟩), .string nm] w fun e w' => e = .returned (.tuple #[.slice none 0 0, .int .i64 102]) ∧ Dk B w' 0 S ∧ Fr w (Fp S) w' (Fp S) := by
  have l1 := h.cell 0 (.int .i32 0) rfl
  have l2 := frozen_of h.dk 0
  have HE : Hid (Dk B (w.setCell ⟨S.d, 0, none⟩ (.int .i32 1)) 1 S ∧ Fr w (Fp S) (w.setCell ⟨S.d, 0, none⟩ (.int .i32 1)) (Fp S)) := ⟨h.setLock 1, Fr.setCell (.inl rfl) _⟩
  have HFI : Hid (∀ w2, Dk B w2 1 S → Calls Try.prog 38 #[.pointer (some ⟨S.d, 0, none⟩), .string nm] w2 fun e w' => e = .returned (.tuple #[.pointer none, .int .i64 102]) ∧ Below w2.heap.size w2 w') := fun w2 h2 => find_no w2 h2 hoff nm hx hs
  clear h hs hx
  go_enter_defers Try.func30, Try.ntmps30
  go_wp2_with (first | (go_at_call 34; refine (lock_free muLib ⟨S.d, 0, none⟩ _ l1 l2).mono ?_; rintro e w2 ⟨rfl, hw2⟩; have H2 : Hid (Dk B w2 1 S ∧ Fr w (Fp S) w2 (Fp S)) := (by rw [hw2]; exact HE.out); clear hw2 l1 l2) | (go_at_call 38; refine (HFI.out _ H2.out.1).mono ?_; rintro e w3 ⟨rfl, hB3⟩; have H3 : Hid (Dk B w3 1 S ∧ Fr w (Fp S) w3 (Fp S)) := ⟨H2.out.1.below hB3, H2.out.2.trans (Fr.of_below hB3)⟩; clear hB3))
  have HZ := hide (door_of H3.out.1 rfl)
  refine leaves_cons (f := 35) (args := #[.pointer (some ⟨S.d, 0, none⟩)]) (by simp) (by simp [go_sem]) ?_
  refine (unlock_deferred muLib ⟨S.d, 0, none⟩ .returning _ ?_ ?_).mono ?_
  · exact HZ.out.1
  · exact HZ.out.2.1
  rintro e u' w'' ⟨rfl, rfl, rfl⟩
  exact ⟨_, results_tmp2 rfl _ _ _, rfl, HZ.out.2.2.1, H3.out.2.trans HZ.out.2.2.2⟩

end Go.Proofs.Ytiblnkiecpcdpaa

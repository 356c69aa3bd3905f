/- The law of limits: its steps. -/
import Derived.Test.YtiblnkiecpcdpaaJ14E
import Derived.Lib.SmallJoins
namespace Go.Proofs.Ytiblnkiecpcdpaa
open Go.RowKit
open Go.MuLone (lock_free unlock_deferred run_callFunc_enter)
set_option linter.unusedVariables false
set_option linter.unusedSimpArgs false

set_option maxRecDepth 100000 in
theorem room_any {B : Nat} {S : DS} (w : World) (h : Dk B w 0 S) : Calls Try.prog 22 #[.pointer (some ⟨S.d, 0, none⟩)] w fun e w' => e = .returned (.int .i64 (S.room : Int)) ∧ Dk B w' 0 S ∧ Fr w (Fp S) w' (Fp S) := by
  have l1 := h.cell 0 (.int .i32 0) rfl
  have l2 := frozen_of h.dk 0
  have HE : Hid (Dk B (w.setCell ⟨S.d, 0, none⟩ (.int .i32 1)) 1 S ∧ Fr w (Fp S) (w.setCell ⟨S.d, 0, none⟩ (.int .i32 1)) (Fp S)) := ⟨h.setLock 1, Fr.setCell (.inl rfl) _⟩
  clear h
  go_enter_defers Try.func22, Try.ntmps22
  go_wp2_with (go_at_call 34; refine (lock_free muLib ⟨S.d, 0, none⟩ _ l1 l2).mono ?_; rintro e w2 ⟨rfl, hw2⟩; have H2 : Hid (Dk B w2 1 S ∧ Fr w (Fp S) w2 (Fp S)) := (by rw [hw2]; exact HE.out); have c2 := H2.out.1.cell 2 (.int .i64 (S.room : Int)) rfl; clear hw2 l1 l2)
  have HZ := hide (door_of H2.out.1 rfl)
  refine leaves_cons (f := 35) (args := #[.pointer (some ⟨S.d, 0, none⟩)]) (by simp) (by simp [go_sem]) ?_
  refine (unlock_deferred muLib ⟨S.d, 0, none⟩ .returning _ ?_ ?_).mono ?_
  · exact HZ.out.1
  · exact HZ.out.2.1
  rintro e u' w'' ⟨rfl, rfl, rfl⟩
  exact ⟨_, results_tmp rfl _ _ _, rfl, HZ.out.2.2.1, H2.out.2.trans HZ.out.2.2.2⟩

/-- The law's disk. -/
structure Lm (w w' : World) (d n : Nat) (S : DS) : Prop where
  dk : Dk w.heap.size w' 0 S
  dd : S.d = d
  cfg : S.off = false ∧ S.ain = 0 ∧ S.wr ≤ n ∧ S.room = 268435456
  arm : S.keep = 0 ∧ S.lose = 0
  bel : Below w.heap.size w w'

theorem Lm.fr {w w1 w2 : World} {d n : Nat} {S S' : DS} (h : Lm w w1 d n S) (hD : Dk w.heap.size w2 0 S') (hd : S'.d = S.d) (hp : S'.ps = S.ps) (hf : Fr w1 (Fp S) w2 (Fp S')) : Lm w w2 d n S' :=
  ⟨hD, hd.trans h.dd, ⟨(congrArg PS.off hp).trans h.cfg.1, (congrArg PS.ain hp).trans h.cfg.2.1, by have h1 : S'.wr = S.wr := congrArg PS.wr hp; rw [h1]; exact h.cfg.2.2.1, (congrArg PS.room hp).trans h.cfg.2.2.2⟩, ⟨(congrArg PS.keep hp).trans h.arm.1, (congrArg PS.lose hp).trans h.arm.2⟩, h.bel.trans (hf.below h.dk.fpB h.bel.size)⟩
theorem Lm.below {w w1 w2 : World} {d n : Nat} {S : DS} (h : Lm w w1 d n S) (hb : Below w1.heap.size w1 w2) : Lm w w2 d n S := h.fr (h.dk.below hb) rfl rfl (Fr.of_below hb)
theorem Lm.next {w w1 w2 : World} {d n : Nat} {S S' : DS} {c : Con} (h : Lm w w1 d n S) (hD : Dk w.heap.size w2 0 S') (hd : S'.d = S.d) (hp : S'.ps = S.ps.next c) (hf : Fr w1 (Fp S) w2 (Fp S')) : Lm w w2 d (n + 1) S' :=
  ⟨hD, hd.trans h.dd, ⟨(congrArg PS.off hp).trans h.cfg.1, by have h1 : S'.ain = S.ain - 1 := congrArg PS.ain hp; have := h.cfg.2.1; omega, by have h1 : S'.wr = S.wr + 1 := congrArg PS.wr hp; have := h.cfg.2.2.1; omega, (congrArg PS.room hp).trans h.cfg.2.2.2⟩, ⟨(congrArg PS.keep hp).trans h.arm.1, (congrArg PS.lose hp).trans h.arm.2⟩, h.bel.trans (hf.below h.dk.fpB h.bel.size)⟩
theorem Lm.arms {w w1 : World} {d n : Nat} {S : DS} (h : Lm w w1 d n S) : S.ps.arms :=
  ⟨by show S.ain ≤ _; have := h.cfg.2.1; omega, ⟨by show _ ≤ S.keep; have := h.arm.1; omega, by show S.keep ≤ _; have := h.arm.1; omega⟩, by show _ ≤ S.lose; have := h.arm.2; omega, by show S.lose ≤ _; have := h.arm.2; omega⟩

theorem keep_fr {w1 w2 : World} {S S' : DS} {k : Nat} {O : Obj} (h : w1.heap[k]? = some O ∧ ¬ Fp S k) (hf : Fr w1 (Fp S) w2 (Fp S')) : w2.heap[k]? = some O ∧ ¬ Fp S' k :=
  ⟨((hf.block k (heap_lt h.1) h.2).2).trans h.1, (hf.block k (heap_lt h.1) h.2).1⟩
theorem keep_new {w1 w2 : World} {w : World} {d n : Nat} {S : DS} (h : Lm w w1 d n S) {k : Nat} {O : Obj} (hk : w1.heap.size ≤ k) (ho : w2.heap[k]? = some O) : w2.heap[k]? = some O ∧ ¬ Fp S k := ⟨ho, fun e => by have := h.dk.fpLt k e; omega⟩

section
variable {w w1 : World} {d n : Nat} {S : DS}

theorem lm_new (hb : Below w.heap.size w w1) : Calls Try.prog 7 #[.int .i64 268435456] w1 fun e w2 => ∃ S : DS, e = .returned (.tuple #[.pointer (some ⟨S.d, 0, none⟩), .int .i64 0]) ∧ Lm w w2 S.d 0 S ∧ S.ps.con = [] ∧ Below w1.heap.size w1 w2 := by
  refine (new_ok w1 w.heap.size hb.size 268435456 (by decide) (by decide)).mono ?_
  rintro e w2 ⟨S, rfl, e1, e2, e3, e4⟩
  exact ⟨S, rfl, ⟨e1, rfl, ⟨congrArg PS.off e2, congrArg PS.ain e2, Nat.le_of_eq (congrArg PS.wr e2), congrArg PS.room e2⟩, ⟨congrArg PS.keep e2, congrArg PS.lose e2⟩, hb.trans (e3.mono hb.size)⟩, by rw [e2], e3⟩

theorem Lm.rooms (h : Lm w w1 d n S) : Calls Try.prog 22 #[.pointer (some ⟨d, 0, none⟩)] w1 fun e w2 => e = .returned (.int .i64 268435456) ∧ Lm w w2 d n S := by
  have hd0 := h.dd
  subst hd0
  refine (room_any w1 h.dk).mono ?_
  rintro e w2 ⟨rfl, e1, e2⟩
  exact ⟨by rw [h.cfg.2.2.2]; rfl, h.fr e1 rfl rfl e2⟩

theorem refs_bad {off : Bool} {l : List ByteArray} {c : Int} {nm : ByteArray} (h : Refs off l c) (ho : off = false) (hm : nm ∈ l) (hb : ¬ okN nm) : c = 101 := by
  rcases h with ⟨a, _⟩ | ⟨_, _, a⟩ | ⟨_, a, _⟩
  · rw [ho] at a; cases a
  · exact a
  · exact absurd (a nm hm) hb

theorem Lm.appBad (h : Lm w w1 d n S) (hn : n ≤ 1000000) {nm : ByteArray} (hb : ¬ okN nm) (hz : nm.size ≤ 140737488355328) :
    Calls Try.prog 16 #[.pointer (some ⟨d, 0, none⟩), .string nm, .slice none 0 0] w1 fun e w2 => e = .returned (.int .i64 101) ∧ ∃ S' : DS, Lm w w2 d n S' ∧ S'.ps = S.ps ∧ Fr w1 (Fp S) w2 (Fp S') := by
  have hd0 := h.dd
  subst hd0
  refine (append_all w1 h.dk nm hz none 0 0 [] rfl (.inl (.inl ⟨rfl, rfl⟩)) (fun k e => by simp [Value.ownBlock] at e) (Nat.le_refl _) (fun _ => rfl) (by simp) (by omega) h.arms (by have := h.cfg.2.2.1; omega)).mono ?_
  rintro e w2 ⟨c, S', rfl, e1, e2, e3, e4⟩
  rcases e2 with ⟨a, _, b⟩ | ⟨_, a, _⟩ | ⟨_, a, _⟩
  · exact ⟨by rw [refs_bad a h.cfg.1 (List.mem_singleton.2 rfl) hb], S', h.fr e3 e1 b e4, b, e4⟩
  · exact absurd a hb
  · exact absurd a hb

theorem Lm.synBad (h : Lm w w1 d n S) (hn : n ≤ 1000000) {nm : ByteArray} (hb : ¬ okN nm) (hz : nm.size ≤ 140737488355328) :
    Calls Try.prog 26 #[.pointer (some ⟨d, 0, none⟩), .string nm] w1 fun e w2 => e = .returned (.int .i64 101) ∧ ∃ S' : DS, Lm w w2 d n S' ∧ S'.ps = S.ps ∧ Fr w1 (Fp S) w2 (Fp S') := by
  have hd0 := h.dd
  subst hd0
  refine (sync_all w1 h.dk nm hz h.arms (by have := h.cfg.2.2.1; omega)).mono ?_
  rintro e w2 ⟨c, S', rfl, e1, e2, e3, e4⟩
  rcases e2 with ⟨⟨_, a⟩, b⟩ | ⟨_, a, _⟩
  · rcases a with a | ⟨_, a, _⟩
    · exact ⟨by rw [refs_bad a h.cfg.1 (List.mem_singleton.2 rfl) hb], S', h.fr e3 e1 b e4, b, e4⟩
    · exact absurd a hb
  · exact absurd a hb

theorem Lm.renBad (h : Lm w w1 d n S) (hn : n ≤ 1000000) {nm tn : ByteArray} (hb : ¬ okN nm) (hz : nm.size ≤ 140737488355328) (hzt : tn.size ≤ 140737488355328) :
    Calls Try.prog 27 #[.pointer (some ⟨d, 0, none⟩), .string nm, .string tn] w1 fun e w2 => e = .returned (.int .i64 101) ∧ ∃ S' : DS, Lm w w2 d n S' ∧ S'.ps = S.ps ∧ Fr w1 (Fp S) w2 (Fp S') := by
  have hd0 := h.dd
  subst hd0
  refine (rename_all w1 h.dk nm tn hz hzt h.arms (by have := h.cfg.2.2.1; omega)).mono ?_
  rintro e w2 ⟨c, S', rfl, e1, e2, e3, e4⟩
  rcases e2 with ⟨a, _, b⟩ | ⟨_, a, _⟩ | ⟨_, a, _⟩
  · exact ⟨by rw [refs_bad a h.cfg.1 (List.mem_cons.2 (.inl rfl)) hb], S', h.fr e3 e1 b e4, b, e4⟩
  · exact absurd a hb
  · exact absurd a hb

theorem okN_47 {nm : ByteArray} (h : okN nm) : nm.size ≤ 140737488355328 := Nat.le_trans h.2.1 (by decide)

theorem Lm.app (h : Lm w w1 d n S) (hn : n ≤ 1000000) {nm : ByteArray} (hok : okN nm) {q : Option Addr} {m cb : Nat} (bs : List Nat) (hm : m = bs.length) (hm2 : m ≤ 100) (hby : IsBy w1 (.slice q m cb) bs) (hfb : ∀ k, (Value.slice q m cb).ownBlock = some k → ¬ Fp S k) (hmc : m ≤ cb) (hq : q = none → cb = 0) (hbb : ∀ n ∈ bs, n < 256) (hc : S.ps.con.has nm ∨ S.ps.con.length < 256) (ht : bs.length + Con.tot S.ps.con ≤ 268435456) :
    Calls Try.prog 16 #[.pointer (some ⟨d, 0, none⟩), .string nm, .slice q m cb] w1 fun e w2 => e = .returned (.int .i64 0) ∧ ∃ S' : DS, Lm w w2 d (n + 1) S' ∧ S'.ps.con = Con.app S.ps.con nm bs ∧ Fr w1 (Fp S) w2 (Fp S') := by
  have hd0 := h.dd
  subst hd0
  refine (append_all w1 h.dk nm (okN_47 hok) q m cb bs hm hby hfb hmc hq hbb (by omega) h.arms (by have := h.cfg.2.2.1; omega)).mono ?_
  rintro e w2 ⟨c, S', rfl, e1, e2, e3, e4⟩
  rcases e2 with ⟨a, b, _⟩ | ⟨_, _, a, _⟩ | ⟨_, _, _, a, b⟩
  · exfalso
    rcases a with ⟨a, _⟩ | ⟨_, ⟨s, hs, a⟩, _⟩ | ⟨_, _, a⟩
    · rw [show S.ps.off = S.off from rfl, h.cfg.1] at a; cases a
    · rw [List.mem_singleton.1 hs] at a; exact a hok
    · exact b a
  · exact absurd ⟨hc, by rw [show S.ps.room = S.room from rfl, h.cfg.2.2.2]; exact ht⟩ a
  · rw [wrote_next h.cfg.2.1] at b
    have hcode : S.ps.code = 0 := if_neg (by show ¬ S.ain = 1; have := h.cfg.2.1; omega)
    refine ⟨by rw [a, hcode], S', h.next e3 e1 b e4, ?_, e4⟩
    rw [b]
    show Con.app S.ps.con nm (bs.take _) = _
    rw [List.take_of_length_le (by show _ ≤ 9223372036854775807; omega)]

theorem Lm.appFull (h : Lm w w1 d n S) (hn : n ≤ 1000000) {nm : ByteArray} (hok : okN nm) (hno : ¬ S.ps.con.has nm) (hl : S.ps.con.length = 256) :
    Calls Try.prog 16 #[.pointer (some ⟨d, 0, none⟩), .string nm, .slice none 0 0] w1 fun e w2 => e = .returned (.int .i64 103) ∧ ∃ S' : DS, Lm w w2 d n S' ∧ S'.ps = S.ps ∧ Fr w1 (Fp S) w2 (Fp S') := by
  have hd0 := h.dd
  subst hd0
  refine (append_all w1 h.dk nm (okN_47 hok) none 0 0 [] rfl (.inl (.inl ⟨rfl, rfl⟩)) (fun k e => by simp [Value.ownBlock] at e) (Nat.le_refl _) (fun _ => rfl) (by simp) (by omega) h.arms (by have := h.cfg.2.2.1; omega)).mono ?_
  rintro e w2 ⟨c, S', rfl, e1, e2, e3, e4⟩
  rcases e2 with ⟨a, b, _⟩ | ⟨_, _, _, a, b⟩ | ⟨_, _, a, _⟩
  · exfalso
    rcases a with ⟨a, _⟩ | ⟨_, ⟨s, hs, a⟩, _⟩ | ⟨_, _, a⟩
    · rw [show S.ps.off = S.off from rfl, h.cfg.1] at a; cases a
    · rw [List.mem_singleton.1 hs] at a; exact a hok
    · exact b a
  · exact ⟨by rw [a], S', h.fr e3 e1 b e4, b, e4⟩
  · rcases a.1 with a | a
    · exact absurd a hno
    · omega

theorem Lm.ren (h : Lm w w1 d n S) (hn : n ≤ 1000000) {nm tn : ByteArray} (hok : okN nm) (hok2 : okN tn) (hh : S.ps.con.has nm) :
    Calls Try.prog 27 #[.pointer (some ⟨d, 0, none⟩), .string nm, .string tn] w1 fun e w2 => e = .returned (.int .i64 0) ∧ ∃ S' : DS, Lm w w2 d (n + 1) S' ∧ S'.ps.con = Con.puts (Con.drop S.ps.con nm) tn (Con.get S.ps.con nm) ∧ Fr w1 (Fp S) w2 (Fp S') := by
  have hd0 := h.dd
  subst hd0
  refine (rename_all w1 h.dk nm tn (okN_47 hok) (okN_47 hok2) h.arms (by have := h.cfg.2.2.1; omega)).mono ?_
  rintro e w2 ⟨c, S', rfl, e1, e2, e3, e4⟩
  rcases e2 with ⟨a, b, _⟩ | ⟨_, _, _, a, _⟩ | ⟨_, _, _, _, a, b⟩
  · exfalso
    rcases a with ⟨a, _⟩ | ⟨_, ⟨s, hs, a⟩, _⟩ | ⟨_, _, a⟩
    · rw [show S.ps.off = S.off from rfl, h.cfg.1] at a; cases a
    · simp only [List.mem_cons, List.not_mem_nil, or_false] at hs
      rcases hs with rfl | rfl
      · exact a hok
      · exact a hok2
    · exact b a
  · exact absurd hh a
  · rw [wrote_next h.cfg.2.1] at b
    have hcode : S.ps.code = 0 := if_neg (by show ¬ S.ain = 1; have := h.cfg.2.1; omega)
    refine ⟨by rw [a, hcode], S', h.next e3 e1 b e4, ?_, e4⟩
    rw [b]
    rfl
end

set_option maxRecDepth 100000 in
theorem name_any (i : Nat) (hi : i < 254) (w : World) : Calls Try.prog 28 #[.int .i64 (i : Int)] w fun e w' => e = .returned (.string (nameB i)) ∧ Below w.heap.size w w' := by
  obtain ⟨a, ha⟩ : ∃ a, i / 26 % 26 = a := ⟨_, rfl⟩
  obtain ⟨b, hb⟩ : ∃ b, i % 26 = b := ⟨_, rfl⟩
  have ha2 : a < 26 := by rw [← ha]; exact Nat.mod_lt _ (by decide)
  have hb2 : b < 26 := by rw [← hb]; exact Nat.mod_lt _ (by decide)
  have e1 : (i : Int) / 26 % 26 = (a : Int) := by omega
  have e2 : Int.tmod (i : Int) 26 = (b : Int) := by rw [← hb]; rfl
  have hcs : ∀ (W : World), (convert 34 9 (.slice (some ⟨W.heap.size, 0, none⟩) 2 2)).run Try.prog (W.alloc (.cells #[.int .u8 (97 + (a : Int)), .int .u8 (97 + (b : Int))] 5)) = .ok (.string (strOf [97 + a, 97 + b])) (W.alloc (.cells #[.int .u8 (97 + (a : Int)), .int .u8 (97 + (b : Int))] 5)) := fun W => by
    have h : (W.alloc (.cells #[.int .u8 (97 + (a : Int)), .int .u8 (97 + (b : Int))] 5)).heap[W.heap.size]? = some (.cells (bytesV [97 + a, 97 + b]).toArray 5 (0, 0)) := by
      rw [heap_alloc_new]
      simp [bytesV]
    exact convert_by _ _ _ (.inl (isBytes_row (cap := 2) h))
  have HN : Hid (nameB i = ({ data := #[102] } : ByteArray) ++ strOf [97 + a, 97 + b]) := by show _ = _; unfold nameB; rw [ha, hb]
  have hB : Below w.heap.size w (w.alloc (.cells #[.int .u8 (97 + (a : Int)), .int .u8 (97 + (b : Int))] 5)) := (Below.refl _ _).alloc (Nat.le_refl _) _
  have HB := hide hB
  clear ha hb hB
  go_enter Try.func28, Try.ntmps28
  go_wp2_with (first | (simp only [hcs]) | (simp only [e1]) | (simp only [e2]))
  go_ret
  exact ⟨by rw [HN.out]; rfl, HB.out⟩

end Go.Proofs.Ytiblnkiecpcdpaa

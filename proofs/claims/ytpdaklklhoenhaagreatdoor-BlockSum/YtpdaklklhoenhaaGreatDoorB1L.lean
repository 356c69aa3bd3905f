/- What a Reader's look tells: the number of the n bits from a on. -/
import Derived.Test.YtpdaklklhoenhaaGreatDoorB1R
/- A Writer that has laid a row of bits (Wr), and what put does to it. -/
namespace Go.Proofs.YtpdaklklhoenhaaGreatDoor
open Go.RowKit
open M
set_option linter.unusedVariables false

/-- The k full chunks, the newest first: they hold the first 120 k bytes of l; all lie from block lo on. -/
def Chain (w : World) (lo : Nat) (l : List Bool) : Nat → Option Addr → Prop
  | 0, p => p = none
  | k + 1, p => ∃ c q, p = some ⟨c, 0, none⟩ ∧ lo ≤ c ∧ Chunk w c q (fun j => byteAt l (120 * k + j)) ∧ Chain w lo l k q

/-- The Writer at off of block b has laid l; its first refusal is e. -/
def Wr (w : World) (lo b off : Nat) (l : List Bool) (e : Int) : Prop :=
  ∃ p, Raw w b off p (fun j => byteAt l (120 * (l.length / 960) + j)) l.length e ∧ Chain w lo l (l.length / 960) p

theorem Chunk.congr {w : World} {c : Nat} {q : Option Addr} {f g : Nat → Nat} (h : Chunk w c q f) (e : ∀ j, j < 120 → f j = g j) : Chunk w c q g :=
  ⟨h.1, fun j hj => by rw [← e j hj]; exact h.2 j hj⟩

theorem Raw.congr {w : World} {b off : Nat} {p : Option Addr} {f g : Nat → Nat} {n m : Nat} {e : Int} (h : Raw w b off p f n e) (he : ∀ j, j < 120 → f j = g j) (hn : n = m) : Raw w b off p g m e := by
  subst hn
  exact ⟨h.full, fun j hj => by rw [← he j hj]; exact h.last j hj, h.len, h.err, h.fz⟩

theorem Chunk.lt {w : World} {c : Nat} {q : Option Addr} {f : Nat → Nat} (h : Chunk w c q f) : c < w.heap.size := block_lt_of_cell h.1

theorem Chunk.only {w w' : World} {c : Nat} {q : Option Addr} {f : Nat → Nat} (h : Chunk w c q f) {b o1 o2 : Nat} (ho : Only b o1 o2 w w') (hc : c ≠ b) : Chunk w' c q f := by
  have e := ho.block c h.lt hc
  exact ⟨by rw [World.cell?_of_block (w := w) e]; exact h.1, fun j hj => by rw [World.cell?_of_block (w := w) e]; exact h.2 j hj⟩

theorem Chain.only {w w' : World} {lo : Nat} {l : List Bool} {b o1 o2 : Nat} (ho : Only b o1 o2 w w') (hb : b < lo) : ∀ {k : Nat} {p : Option Addr}, Chain w lo l k p → Chain w' lo l k p
  | 0, _, h => h
  | _ + 1, _, ⟨c, q, hp, hc, hk, hr⟩ => ⟨c, q, hp, hc, hk.only ho (by omega), Chain.only ho hb hr⟩

/-- What has been laid behind does not turn the full chunks. -/
theorem Chain.append {w : World} {lo : Nat} {l : List Bool} (m : List Bool) : ∀ {k : Nat} {p : Option Addr}, 960 * k ≤ l.length → Chain w lo l k p → Chain w lo (l ++ m) k p
  | 0, _, _, h => h
  | k + 1, _, hl, ⟨c, q, hp, hc, hk, hr⟩ => ⟨c, q, hp, hc, hk.congr fun j hj => (byteAt_full l m _ (by omega)).symm, Chain.append m (by omega) hr⟩

theorem part_and (x n kk : Nat) (h : kk ≤ 8) (hk : 0 < kk) : bits BinOp.and IntKind.u8 ((x : Int) / 2 ^ n % 256) (255 / 2 ^ (8 - kk)) = ((x / 2 ^ n % 2 ^ kk : Nat) : Int) := by
  have e1 : ((x : Int) / 2 ^ n % 256) = ((x / 2 ^ n % 256 : Nat) : Int) := by simp
  generalize hy : x / 2 ^ n % 256 = y at e1
  have hy2 : y < 256 := by omega
  rw [e1]
  have e2 : x / 2 ^ n % 2 ^ kk = y % 2 ^ kk := by
    rw [← hy, show (256 : Nat) = 2 ^ kk * 2 ^ (8 - kk) from by rw [← Nat.pow_add, show kk + (8 - kk) = 8 from by omega], Nat.mod_mul_right_mod]
  rw [e2]
  have h8 : kk = 1 ∨ kk = 2 ∨ kk = 3 ∨ kk = 4 ∨ kk = 5 ∨ kk = 6 ∨ kk = 7 ∨ kk = 8 := by omega
  have hm := fun i (hi : i ≤ 8) => bits_mask .u8 8 (by decide) wraps_u8 i hi (y : Int) (by omega) (by omega)
  rcases h8 with rfl | rfl | rfl | rfl | rfl | rfl | rfl | rfl
  · simpa using hm 1 (by omega)
  · simpa using hm 2 (by omega)
  · simpa using hm 3 (by omega)
  · simpa using hm 4 (by omega)
  · simpa using hm 5 (by omega)
  · simpa using hm 6 (by omega)
  · simpa using hm 7 (by omega)
  · simpa using hm 8 (by omega)


theorem or_add (v part room kk : Nat) (hv : v % 2 ^ room = 0) (hv2 : v < 256) (hp : part < 2 ^ kk) (hk : kk ≤ room) (hr : room ≤ 8) :
    bits BinOp.or IntKind.u8 (v : Int) ((part : Int) * 2 ^ (room - kk) % 256) = ((v + part * 2 ^ (room - kk) : Nat) : Int) := by
  have h1 : part * 2 ^ (room - kk) < 2 ^ room := by
    calc part * 2 ^ (room - kk) < 2 ^ kk * 2 ^ (room - kk) := Nat.mul_lt_mul_of_pos_right hp (Nat.pos_of_ne_zero (by simp))
      _ = 2 ^ room := by rw [← Nat.pow_add, Nat.add_sub_cancel' hk]
  have h2 : (2 : Nat) ^ room ≤ 2 ^ 8 := Nat.pow_le_pow_right (by omega) hr
  have e1 : ((part : Int) * 2 ^ (room - kk) % 256) = ((part * 2 ^ (room - kk) : Nat) : Int) := by
    have : ((part : Int) * 2 ^ (room - kk)) = ((part * 2 ^ (room - kk) : Nat) : Int) := by simp
    rw [this]; omega
  rw [e1]
  generalize part * 2 ^ (room - kk) = y at *
  rw [bits_join .u8 8 (by decide) wraps_u8 room (v : Int) (y : Int) (by omega) (by exact_mod_cast hv) (by omega) (by omega) (by exact_mod_cast h1) (by omega)]
  simp

theorem step_world {wr : World} {b off : Nat} {p : Option Addr} {L : List Bool} {len q room kk part v : Nat} (hR : Raw wr b off p (fun j => byteAt L (120 * (len / 960) + j)) len 0) (hl : L.length = len)
    (hq : (len : Int) % 960 / 8 = (q : Int)) (hroom : (8 : Int) - (len : Int) % 8 = (room : Int)) (hk : kk ≤ room) (m : List Bool) (hm : m.length = kk) (hp : num m = part)
    (hv : byteAt L (120 * (len / 960) + q) = v) (z : Int) (hz : z = (part : Int) * 2 ^ (room - kk) % 256) (nq : Nat) :
    Raw (((wr.drewN nq).setCell ⟨b, off + 1 + q, none⟩ (.int .u8 (bits BinOp.or IntKind.u8 (v : Int) z))).setCell ⟨b, off + 121, none⟩ (.int .i64 ((len : Int) + kk))) b off p (fun j => byteAt (L ++ m) (120 * (len / 960) + j)) (L ++ m).length 0 ∧
      Only b off (off + 123) wr (((wr.drewN nq).setCell ⟨b, off + 1 + q, none⟩ (.int .u8 (bits BinOp.or IntKind.u8 (v : Int) z))).setCell ⟨b, off + 121, none⟩ (.int .i64 ((len : Int) + kk))) := by
  have hq' : 120 * (len / 960) + q = len / 8 := by omega
  have hqlt : q < 120 := by omega
  have hdiv : L.length = 8 * (len / 8) + len % 8 := by omega
  have hr' : room = 8 - len % 8 := by omega
  have hvm : v % 2 ^ room = 0 := by rw [← hv, hq', hr']; exact byteAt_mod L _ _ hdiv (by omega)
  have hpl : part < 2 ^ kk := by rw [← hp, ← hm]; exact num_lt m
  rw [hz, or_add v part room kk hvm (by rw [← hv]; exact byteAt_lt _ _) hpl hk (by omega)]
  refine ⟨?_, ((((Only.refl b off (off + 123) wr).drewN nq).setCell _ (by omega) (by omega) _).setCell _ (by omega) (by omega) _)⟩
  have h1 := ((hR.drewN nq).setLast q (v + part * 2 ^ (room - kk)) hqlt).setLen (len + kk)
  rw [show ((len + kk : Nat) : Int) = (len : Int) + kk from by omega] at h1
  refine h1.congr (fun j hj => ?_) (by simp; omega)
  by_cases e : j = q
  · subst e
    simp only [if_true]
    rw [hq', byteAt_here L m _ _ hdiv (by omega) (by omega), ← hv, hq', hp, hm, hr']
  · simp only [if_neg e]
    by_cases h2 : j < q
    · rw [byteAt_full L m _ (by omega)]
    · rw [byteAt_beyond L _ (by omega), byteAt_beyond (L ++ m) _ (by simp; omega)]

theorem stay {wr w2 : World} {lo b off : Nat} {p : Option Addr} {L m : List Bool} (hC : Chain wr lo L (L.length / 960) p)
    (hR : Raw w2 b off p (fun j => byteAt (L ++ m) (120 * (L.length / 960) + j)) (L ++ m).length 0) (hO : Only b off (off + 123) wr w2) (hb : b < lo) (he : (L ++ m).length / 960 = L.length / 960) : Wr w2 lo b off (L ++ m) 0 := by
  refine ⟨p, ?_, ?_⟩
  · rw [he]; exact hR
  · rw [he]; exact Chain.append m (by omega) (Chain.only hO hb hC)

theorem turn {wr w2 w3 : World} {lo b off c : Nat} {p : Option Addr} {L m : List Bool} (hC : Chain wr lo L (L.length / 960) p) (hO : Only b off (off + 123) wr w2) (hO2 : Only b off (off + 123) w2 w3) (hb : b < lo) (hc : lo ≤ c)
    (hR : Raw w3 b off (some ⟨c, 0, none⟩) (fun _ => 0) (L ++ m).length 0) (hK : Chunk w3 c p (fun j => byteAt (L ++ m) (120 * (L.length / 960) + j)))
    (he : (L ++ m).length = 960 * (L.length / 960 + 1)) : Wr w3 lo b off (L ++ m) 0 := by
  have e : (L ++ m).length / 960 = L.length / 960 + 1 := by omega
  refine ⟨some ⟨c, 0, none⟩, ?_, ?_⟩
  · rw [e]; exact hR.congr (fun j _ => (byteAt_beyond _ _ (by omega)).symm) rfl
  · rw [e]; exact ⟨c, p, rfl, hc, hK, Chain.append m (by omega) (Chain.only hO2 hb (Chain.only hO hb hC))⟩

theorem next_list (l : List Bool) (x n n' kk : Nat) (hk : n' + kk ≤ n) : l ++ bitsOf (x / 2 ^ (n' + kk)) (n - (n' + kk)) ++ bitsOf (x / 2 ^ n') kk = l ++ bitsOf (x / 2 ^ n') (n - n') := by
  rw [List.append_assoc]
  congr 1
  have := bitsOf_split (x / 2 ^ n') (n - (n' + kk)) kk
  rw [show n - (n' + kk) + kk = n - n' from by omega, Nat.div_div_eq_div_mul, ← Nat.pow_add] at this
  exact this.symm

set_option maxHeartbeats 1000000 in
theorem put_any (b off lo : Nat) (n x : Nat) (w : World) (l : List Bool) (hW : Wr w lo b off l 0) (hb : b < lo) (hlo : lo ≤ w.heap.size)
    (hlen : l.length + n < 1000000000000) (hn64 : n ≤ 64) (hx : x < 18446744073709551616)
    :
    Calls Tryz.prog 79 #[.pointer (some ⟨b, off, none⟩), .int .u64 x, .int .i64 n] w fun e w' => e = .returned (.tuple #[]) ∧ Wr w' lo b off (l ++ bitsOf x n) 0 ∧ Only b off (off + 123) w w' := by
  have he : w.cell? ⟨b, off + 122, none⟩ = some (.int .i64 0) := by obtain ⟨p, hr, _⟩ := hW; exact hr.err
  go_enter Tryz.func79, Tryz.ntmps79
  go_wp2
  go_loopw [2] (fun i wr => ∃ k : Nat, k ≤ n ∧ i = .int .i64 k ∧ Wr wr lo b off (l ++ bitsOf (x / 2 ^ k) (n - k)) 0 ∧ Only b off (off + 123) w wr) (fun i _ => (intOf i).toNat)
  case atStart => exact ⟨n, Nat.le_refl _, rfl, by simpa [bitsOf] using hW, Only.refl _ _ _ _⟩
  case round =>
    obtain ⟨k, hk, rfl, hWr, hO⟩ := hrel
    by_cases hlt : 0 < k
    · obtain ⟨p, hR, hC⟩ := hWr
      have hll : (l ++ bitsOf (x / 2 ^ k) (n - k)).length + k < 1000000000000 := by simp; omega
      generalize hL : l ++ bitsOf (x / 2 ^ k) (n - k) = L at *
      have HL : Hid (l ++ bitsOf (x / 2 ^ k) (n - k) = L) := hL
      clear hL
      generalize hlenL : L.length = len at *
      have Hlen : Hid (L.length = len) := hlenL
      clear hlenL hW he
      obtain ⟨room, hroom, hr1, hr8⟩ : ∃ room : Nat, (8 : Int) - (len : Int) % 8 = (room : Int) ∧ 1 ≤ room ∧ room ≤ 8 := ⟨8 - len % 8, by omega, by omega, by omega⟩
      obtain ⟨q, hq, hq120⟩ : ∃ q : Nat, (len : Int) % 960 / 8 = (q : Int) ∧ q < 120 := ⟨len % 960 / 8, by omega, by omega⟩
      have c1 := hR.len
      have c2 := hR.last q hq120
      have c3 := hR.fz (1 + q) (by omega)
      rw [show off + (1 + q) = off + 1 + q from by omega] at c3
      have c4 := hR.fz 121 (by omega)
      generalize hv : byteAt L (120 * (len / 960) + q) = v at c2
      have Hv : Hid (byteAt L (120 * (len / 960) + q) = v) := hv
      clear hv
      have hv256 : v < 256 := by rw [← Hv.out]; exact byteAt_lt _ _
      obtain ⟨n', kk, rfl, hk0, hkr, hor⟩ : ∃ n' kk, k = n' + kk ∧ 0 < kk ∧ kk ≤ room ∧ ((n' = 0 ∧ kk < room) ∨ kk = room) := by
        by_cases h : k < room
        · exact ⟨0, k, by omega, hlt, by omega, .inl ⟨rfl, h⟩⟩
        · exact ⟨k - room, room, by omega, by omega, by omega, .inr rfl⟩
      obtain ⟨part, hpart, hp1⟩ : ∃ part : Nat, bits BinOp.and IntKind.u8 ((x : Int) / 2 ^ n' % 256) (255 / 2 ^ (8 - kk)) = (part : Int) ∧ Hid (part = x / 2 ^ n' % 2 ^ kk) := ⟨_, part_and x n' kk (by omega) hk0, rfl⟩
      have Hnum : Hid (num (bitsOf (x / 2 ^ n') kk) = part) := by show _ = _; rw [num_bitsOf]; exact hp1.out.symm
      have HN : Hid (L ++ bitsOf (x / 2 ^ n') kk = l ++ bitsOf (x / 2 ^ n') (n - n')) := by show _ = _; rw [← HL.out]; exact next_list l x n n' kk hk
      have hdl : (L ++ bitsOf (x / 2 ^ n') kk).length = len + kk := by simp [Hlen.out]
      have Hdl : Hid ((L ++ bitsOf (x / 2 ^ n') kk).length = len + kk) := hdl
      clear hp1 HL hdl
      rcases hor with ⟨rfl, hkl⟩ | rfl
      · have hpart' : bits BinOp.and IntKind.u8 ((x : Int) % 256) (255 / 2 ^ (8 - kk)) = (part : Int) := by simpa using hpart
        have h9 : (((len : Int) + kk) % 960 == 0) = false := by rw [beq_eq_false_iff_ne]; omega
        simp only [Nat.zero_add] at hk hlt hll
        rw [Nat.zero_add]
        go_wp2_with fail
        go_quiet ((go_at_call 97; exact Calls.quiet_of_same (lowOnes_any kk _ (by omega))))
        go_wp2_with fail
        go_region
        go_wp2_with fail
        obtain ⟨r2, o2⟩ := step_world hR Hlen.out hq hroom hkr (bitsOf (x / 2 ^ 0) kk) (by simp) Hnum.out Hv.out _ rfl (nq + 1)
        refine ⟨⟨0, Nat.zero_le _, rfl, ?_, hO.trans o2⟩, by simp [intOf]; omega⟩
        rw [← HN.out]
        have Hl := Hlen.out
        subst Hl
        exact stay hC r2 o2 hb (by rw [Hdl.out]; omega)
      · by_cases h9 : (len + kk) % 960 = 0
        · have h9' : (((len : Int) + kk) % 960 == 0) = true := by rw [beq_iff_eq]; omega
          go_wp2_with fail
          go_quiet ((go_at_call 97; exact Calls.quiet_of_same (lowOnes_any kk _ (by omega))))
          go_wp2_with fail
          go_region
          go_wp2_with fail
          obtain ⟨r2, o2⟩ := step_world hR Hlen.out hq hroom hkr (bitsOf (x / 2 ^ n') kk) (by simp) Hnum.out Hv.out ((part : Int) % 256) (by simp) (nq + 1)
          refine (keepLast_any b off p _ _ 0 _ r2).mono ?_
          rintro e w3 ⟨rfl, hR3, hK3, hO3, hlt3⟩
          go_wp2
          refine ⟨⟨n', by omega, rfl, ?_, (hO.trans o2).trans hO3⟩, by simp [intOf]; omega⟩
          rw [← HN.out]
          have Hl := Hlen.out
          subst Hl
          exact turn hC o2 hO3 hb (by have := (hO.trans o2).size; omega) hR3 hK3 (by rw [Hdl.out]; omega)
        · have h9' : (((len : Int) + kk) % 960 == 0) = false := by rw [beq_eq_false_iff_ne]; omega
          go_wp2_with fail
          go_quiet ((go_at_call 97; exact Calls.quiet_of_same (lowOnes_any kk _ (by omega))))
          go_wp2_with fail
          go_region
          go_wp2_with fail
          obtain ⟨r2, o2⟩ := step_world hR Hlen.out hq hroom hkr (bitsOf (x / 2 ^ n') kk) (by simp) Hnum.out Hv.out ((part : Int) % 256) (by simp) (nq + 1)
          refine ⟨⟨n', by omega, rfl, ?_, hO.trans o2⟩, by simp [intOf]; omega⟩
          rw [← HN.out]
          have Hl := Hlen.out
          subst Hl
          exact stay hC r2 o2 hb (by rw [Hdl.out]; omega)
    · have hk0 : k = 0 := by omega
      subst hk0
      go_wp2
      go_end0
      exact ⟨rfl, by simpa using hWr, hO⟩

end Go.Proofs.YtpdaklklhoenhaaGreatDoor

/- The contracts of a Writer's Bit, Bits, Unary, Var and Zig, where nothing has been refused. -/
namespace Go.Proofs.YtpdaklklhoenhaaGreatDoor
open Go.RowKit
open M
set_option linter.unusedVariables false

theorem wraps_u64 (n : Int) (h₀ : 0 ≤ n) (h₁ : n < 2 ^ 64) : IntKind.u64.wrap n = n := by
  simp only [IntKind.wrap, IntKind.bits, IntKind.signed]; simp; omega

theorem and127 (x : Nat) (h : x < 18446744073709551616) : bits BinOp.and IntKind.u64 (x : Int) 127 = ((x % 128 : Nat) : Int) := by
  have := bits_mask .u64 64 (by decide) wraps_u64 7 (by omega) (x : Int) (by omega) (by omega)
  simpa using this

theorem or128 (y : Nat) (h : y < 128) : bits BinOp.or IntKind.u64 128 (y : Int) = ((128 + y : Nat) : Int) := by
  have := bits_join .u64 64 (by decide) wraps_u64 7 128 (y : Int) (by omega) (by omega) (by omega) (by omega) (by omega) (by omega)
  rw [this]; simp

/-- Bits that fit. -/
theorem wbits_any (b off lo : Nat) (n x : Nat) (w : World) (l : List Bool) (hW : Wr w lo b off l 0) (hb : b < lo) (hlo : lo ≤ w.heap.size)
    (hlen : l.length + n < 1000000000000) (hn64 : n ≤ 64) (hx : x < 18446744073709551616) (hfit : x < 2 ^ n) :
    Calls Tryz.prog 49 #[.pointer (some ⟨b, off, none⟩), .int .u64 x, .int .i64 n] w fun e w' => e = .returned (.tuple #[]) ∧ Wr w' lo b off (l ++ bitsOf x n) 0 ∧ Only b off (off + 123) w w' := by
  have h0 : ((x : Int) / 2 ^ n != 0) = false := by
    have : x / 2 ^ n = 0 := Nat.div_eq_of_lt hfit
    have e : (x : Int) / 2 ^ n = ((x / 2 ^ n : Nat) : Int) := by simp
    rw [e, this]; rfl
  go_enter Tryz.func49, Tryz.ntmps49
  go_wp2_with (go_at_call 79; refine (put_any b off lo n x _ l hW hb hlo hlen hn64 hx).mono ?_; rintro e w' ⟨rfl, h1, h2⟩)
  go_end0
  exact ⟨rfl, h1, h2⟩

set_option maxHeartbeats 400000 in
theorem wvar_any (b off lo : Nat) (x : Nat) (w : World) (l : List Bool) (hW : Wr w lo b off l 0) (hb : b < lo) (hlo : lo ≤ w.heap.size)
    (hlen : l.length + 80 < 1000000000000) (hx : x < 18446744073709551616) :
    Calls Tryz.prog 158 #[.pointer (some ⟨b, off, none⟩), .int .u64 x] w fun e w' => e = .returned (.tuple #[]) ∧ Wr w' lo b off (l ++ varB x) 0 ∧ Only b off (off + 123) w w' := by
  go_enter Tryz.func158, Tryz.ntmps158
  go_wp2
  go_loopw [1] (fun i wr => ∃ (k y : Nat) (pre : List Bool), k ≤ 9 ∧ pre.length = 8 * (9 - k) ∧ y < 128 ^ (k + 1) ∧ y ≤ x ∧ i = .int .u64 y ∧ Hid (pre ++ groups k y = varB x) ∧ Wr wr lo b off (l ++ pre) 0 ∧ Only b off (off + 123) w wr) (fun i _ => (intOf i).toNat)
  case atStart => exact ⟨9, x, [], by omega, by simp, by omega, by omega, rfl, rfl, by simpa using hW, Only.refl _ _ _ _⟩
  case round =>
    obtain ⟨k, y, pre, hk, hpre, hy, hyx, rfl, hE, hWr, hO⟩ := hrel
    have Hpre : Hid (pre.length = 8 * (9 - k)) := hpre
    clear hpre
    by_cases hlt : 127 < y
    · obtain ⟨k, rfl⟩ : ∃ k', k = k' + 1 := by
        cases k with
        | zero => simp at hy; omega
        | succ k => exact ⟨k, rfl⟩
      have ha := and127 y (by omega)
      have ho : Hid (bits BinOp.or IntKind.u64 128 ((y : Int) % 128) = ((128 + y % 128 : Nat) : Int)) := by have := or128 (y % 128) (by omega); unfold Hid; simpa using this
      have Hle : (l ++ pre).length + 8 < 1000000000000 := by simp [Hpre.out]; omega
      go_wp2_with fail
      rw [ho.out]
      refine (put_any b off lo 8 _ _ (l ++ pre) hWr hb (Nat.le_trans hlo hO.size) Hle (by omega) (by omega)).mono ?_
      rintro e w1 ⟨rfl, h1, h2⟩
      go_wp2_with fail
      go_roundw
      case rel =>
        refine ⟨k, y / 128, pre ++ bitsOf (128 + y % 128) 8, by omega, by simp [Hpre.out]; omega, ?_, by omega, by go_num, ?_, by simpa using h1, hO.trans h2⟩
        · rw [Nat.pow_succ] at hy; omega
        · show _ = _; rw [← hE.out, groups_big k y (by omega)]; simp
      case measure => simp [intOf]; omega
    · go_wp2_with fail
      refine (put_any b off lo 8 y _ (l ++ pre) hWr hb (Nat.le_trans hlo hO.size) (by simp [Hpre.out]; omega) (by omega) (by omega)).mono ?_
      rintro e w1 ⟨rfl, h1, h2⟩
      go_wp2
      go_end0
      exact ⟨rfl, by rw [← hE.out, groups_small k y (by omega)]; simpa using h1, hO.trans h2⟩

theorem xor_ones (a : Nat) (h : a < 18446744073709551616) : a ^^^ 18446744073709551615 = 18446744073709551615 - a := by
  have h1 : (BitVec.ofNat 64 a ^^^ BitVec.allOnes 64).toNat = (~~~ BitVec.ofNat 64 a).toNat := by rw [BitVec.xor_allOnes]
  rw [BitVec.toNat_xor, BitVec.toNat_not, BitVec.toNat_ofNat, BitVec.toNat_allOnes] at h1
  rw [Nat.mod_eq_of_lt (by omega)] at h1
  simpa using h1

/-- Zig's xor. -/
theorem zig_xor (x : Int) (h1 : -9223372036854775808 ≤ x) (h2 : x ≤ 9223372036854775807) :
    bits BinOp.xor IntKind.u64 (IntKind.u64.wrap (IntKind.u64.wrap x * 2)) (IntKind.u64.wrap (x / 9223372036854775808)) = (zig x : Int) := by
  have hw : ∀ n : Int, IntKind.u64.wrap n = n % 18446744073709551616 := fun n => by simp [IntKind.wrap, IntKind.bits, IntKind.signed]
  rw [hw, hw, hw]
  have e1 : ∀ n : Int, 0 ≤ n % 18446744073709551616 ∧ n % 18446744073709551616 < 18446744073709551616 := fun n => by omega
  rw [u64_xor _ _ (e1 _).1 (e1 _).2 (e1 _).1 (e1 _).2]
  unfold zig
  by_cases hx : x < 0
  · rw [if_pos hx]
    have e2 : (x / 9223372036854775808 % 18446744073709551616).toNat = 18446744073709551615 := by omega
    rw [e2, xor_ones _ (by omega)]
    omega
  · rw [if_neg hx]
    have e2 : (x / 9223372036854775808 % 18446744073709551616).toNat = 0 := by omega
    rw [e2, Nat.xor_zero]
    omega

theorem zig_lt (x : Int) (h1 : -9223372036854775808 ≤ x) (h2 : x ≤ 9223372036854775807) : zig x < 18446744073709551616 := by
  unfold zig; split <;> omega

theorem wzig_any (b off lo : Nat) (x : Int) (w : World) (l : List Bool) (hW : Wr w lo b off l 0) (hb : b < lo) (hlo : lo ≤ w.heap.size)
    (hlen : l.length + 80 < 1000000000000) (hx1 : -9223372036854775808 ≤ x) (hx2 : x ≤ 9223372036854775807) :
    Calls Tryz.prog 160 #[.pointer (some ⟨b, off, none⟩), .int .i64 x] w fun e w' => e = .returned (.tuple #[]) ∧ Wr w' lo b off (l ++ varB (zig x)) 0 ∧ Only b off (off + 123) w w' := by
  go_enter Tryz.func160, Tryz.ntmps160
  go_wp2_with fail
  rw [zig_xor x hx1 hx2]
  refine (wvar_any b off lo (zig x) _ l hW hb hlo hlen (zig_lt x hx1 hx2)).mono ?_
  rintro e w1 ⟨rfl, h1, h2⟩
  go_wp2
  go_end0
  exact ⟨rfl, h1, h2⟩

theorem wbit_any (b off lo : Nat) (v : Bool) (w : World) (l : List Bool) (hW : Wr w lo b off l 0) (hb : b < lo) (hlo : lo ≤ w.heap.size)
    (hlen : l.length + 1 < 1000000000000) :
    Calls Tryz.prog 216 #[.pointer (some ⟨b, off, none⟩), .bool v] w fun e w' => e = .returned (.tuple #[]) ∧ Wr w' lo b off (l ++ [v]) 0 ∧ Only b off (off + 123) w w' := by
  cases v with
  | true =>
    go_enter Tryz.func216, Tryz.ntmps216
    go_wp2_with fail
    refine (put_any b off lo 1 1 _ l hW hb hlo hlen (by omega) (by omega)).mono ?_
    rintro e w1 ⟨rfl, h1, h2⟩
    go_wp2
    go_end0
    exact ⟨rfl, h1, h2⟩
  | false =>
    go_enter Tryz.func216, Tryz.ntmps216
    go_wp2_with fail
    refine (put_any b off lo 1 0 _ l hW hb hlo hlen (by omega) (by omega)).mono ?_
    rintro e w1 ⟨rfl, h1, h2⟩
    go_wp2
    go_end0
    exact ⟨rfl, h1, h2⟩

theorem bitsOf_ones (n : Nat) : bitsOf (2 ^ n - 1) n = List.replicate n true := by
  apply num_inj (by simp)
  rw [num_bitsOf]
  have h : num (List.replicate n true) + 1 = 2 ^ n := by
    induction n with
    | zero => rfl
    | succ n ih => simp [List.replicate_succ, num, Nat.pow_succ]; omega
  have : 0 < 2 ^ n := Nat.pos_of_ne_zero (by simp)
  rw [Nat.mod_eq_of_lt (by omega)]; omega

theorem ones_wrap (n : Nat) (hn : n ≤ 64) : IntKind.u64.wrap (IntKind.u64.wrap (2 ^ n) - 1) = ((2 ^ n - 1 : Nat) : Int) := by
  have hw : ∀ n : Int, IntKind.u64.wrap n = n % 18446744073709551616 := fun n => by simp [IntKind.wrap, IntKind.bits, IntKind.signed]
  rw [hw, hw]
  have hpos : 0 < 2 ^ n := Nat.pos_of_ne_zero (by simp)
  have hle : (2 : Nat) ^ n ≤ 2 ^ 64 := Nat.pow_le_pow_right (by omega) hn
  have e : ((2 : Int) ^ n) = ((2 ^ n : Nat) : Int) := by simp
  rw [e]
  generalize (2 : Nat) ^ n = y at *
  omega


end Go.Proofs.YtpdaklklhoenhaaGreatDoor

namespace Go.Proofs.YtpdaklklhoenhaaGreatDoor
open Go.RowKit
open M
set_option linter.unusedVariables false
theorem look_step (s : ByteArray) (a d a1 room kk q sh x : Nat) (ha : a1 = a + d) (hroom : (8 : Int) - (a1 : Int) % 8 = (room : Int)) (hq : (a1 : Int) / 8 = (q : Int)) (hqs : q < s.size) (hk0 : 0 < kk) (hkr : kk ≤ room) (hsh : sh = room - kk)
    (hd : d + kk ≤ 64) (hle : a1 + kk ≤ 8 * s.size) (hx : x = num (((rbits (bytesN s)).drop a).take d)) :
    bits BinOp.or IntKind.u64 (IntKind.u64.wrap ((x : Int) * 2 ^ kk)) (IntKind.u64.wrap (bits BinOp.and IntKind.u8 ((s[q].toNat : Int) / 2 ^ sh) (255 / 2 ^ (8 - kk)))) = ((num (((rbits (bytesN s)).drop a).take (d + kk)) : Nat) : Int) := by
  have hlen : (rbits (bytesN s)).length = 8 * s.size := by simp
  have hv : (bytesN s).getD q 0 = s[q].toNat := by
    have : q < (bytesN s).length := by simpa using hqs
    rw [List.getD_eq_getElem?_getD, List.getElem?_eq_getElem this]
    simp [bytesN]
    rfl
  have hlt : s[q].toNat < 256 := s[q].toNat_lt
  generalize s[q].toNat = v at *
  have e1 : ((v : Int) / 2 ^ sh) = ((v : Int) / 2 ^ sh % 256) := by
    have h1 : (v : Int) / 2 ^ sh = ((v / 2 ^ sh : Nat) : Int) := by simp
    have h2 : v / 2 ^ sh ≤ v := Nat.div_le_self _ _
    rw [h1]
    generalize v / 2 ^ sh = y at *
    omega
  rw [e1, part_and v sh kk (by omega) hk0]
  have hb := look_byte (bytesN s) a1 kk (by simp; omega) (by omega)
  rw [show a1 / 8 = q from by omega, hv, show 8 - a1 % 8 - kk = sh from by omega] at hb
  rw [← hb]
  have hsum := num_take_add ((rbits (bytesN s)).drop a) d kk (by simp; omega)
  rw [List.drop_drop, show a + d = a1 from ha.symm, ← hx] at hsum
  have hxl : x < 2 ^ d := by
    have := num_lt (((rbits (bytesN s)).drop a).take d)
    rw [← hx] at this
    refine Nat.lt_of_lt_of_le this (Nat.pow_le_pow_right (by omega) (List.length_take_le _ _))
  have hpl : num (((rbits (bytesN s)).drop a1).take kk) < 2 ^ kk := by
    refine Nat.lt_of_lt_of_le (num_lt _) (Nat.pow_le_pow_right (by omega) (List.length_take_le _ _))
  generalize num (((rbits (bytesN s)).drop a1).take kk) = y at *
  have hle64 : (2 : Nat) ^ (d + kk) ≤ 2 ^ 64 := Nat.pow_le_pow_right (by omega) hd
  have hxk : x * 2 ^ kk + 2 ^ kk ≤ 2 ^ (d + kk) := by
    rw [Nat.pow_add, ← Nat.succ_mul]; exact Nat.mul_le_mul_right _ hxl
  have e2 : ((x : Int) * 2 ^ kk) = ((x * 2 ^ kk : Nat) : Int) := by simp
  have hm : x * 2 ^ kk % 2 ^ kk = 0 := Nat.mul_mod_left _ _
  rw [e2, hsum]
  have hkle : (2 : Nat) ^ kk ≤ 2 ^ 64 := Nat.pow_le_pow_right (by omega) (by omega)
  generalize x * 2 ^ kk = z at *
  generalize hP : (2 : Nat) ^ kk = p at *
  rw [wraps_u64 z (by omega) (by omega), wraps_u64 y (by omega) (by omega)]
  rw [bits_join .u64 64 (by decide) wraps_u64 kk (z : Int) (y : Int) (by omega) (by rw [show ((2 : Int) ^ kk) = ((p : Nat) : Int) from by rw [← hP]; simp]; omega) (by omega) (by omega) (by rw [show ((2 : Int) ^ kk) = ((p : Nat) : Int) from by rw [← hP]; simp]; omega) (by omega)]
  simp

set_option maxHeartbeats 1000000 in
theorem look_any (b off : Nat) (s : ByteArray) (a n : Nat) (w : World) (h1 : w.cell? ⟨b, off, none⟩ = some (.string s)) (hs : s.size ≤ 1000000000000) (hn : n ≤ 64) (han : a + n ≤ 8 * s.size) :
    Calls Tryz.prog 101 #[.pointer (some ⟨b, off, none⟩), .int .i64 a, .int .i64 n] w fun e w' => e = .returned (.int .u64 (num (((rbits (bytesN s)).drop a).take n) : Int)) ∧ ∃ m, w' = w.drewN m := by
  go_enter Tryz.func101, Tryz.ntmps101
  go_wp2
  go_loopw [1, 2, 7] (fun t1 t2 t7 wr => ∃ (d a1 n1 : Nat) (x : Nat), Hid (a1 = a + d ∧ n = n1 + d) ∧ t1 = .int .i64 a1 ∧ t2 = .int .i64 n1 ∧ t7 = .int .u64 x ∧ Hid (x = num (((rbits (bytesN s)).drop a).take d)) ∧ Hid (∃ m, wr = w.drewN m)) (fun _ t2 _ _ => (intOf t2).toNat)
  case atStart => exact ⟨0, a, n, 0, ⟨rfl, rfl⟩, rfl, rfl, rfl, rfl, ⟨0, rfl⟩⟩
  case round =>
    obtain ⟨d, a1, n1, x, hd, rfl, rfl, rfl, hx, hm⟩ := hrel
    have h1r : wr.cell? ⟨b, off, none⟩ = some (.string s) := by obtain ⟨m, rfl⟩ := hm.out; exact h1
    have ha1 : a1 + n1 ≤ 8 * s.size := by have := hd.out; omega
    have hn1 : n1 ≤ 64 := by have := hd.out; omega
    by_cases hlt : 0 < n1
    · obtain ⟨room, hroom, hr1, hr8⟩ : ∃ room : Nat, (8 : Int) - (a1 : Int) % 8 = (room : Int) ∧ 1 ≤ room ∧ room ≤ 8 := ⟨8 - a1 % 8, by omega, by omega, by omega⟩
      obtain ⟨q, hq, hqs⟩ : ∃ q : Nat, (a1 : Int) / 8 = (q : Int) ∧ q < s.size := ⟨a1 / 8, by omega, by omega⟩
      have hqi : (q : Int) < (s.size : Int) := by omega
      have hqb : q ≤ 1000000000000 := by omega
      have hwq : IntKind.i64.wrap (q : Int) = (q : Int) := by rw [IntKind.wrap_i64]; omega
      obtain ⟨n', kk, rfl, hk0, hkr, hor⟩ : ∃ n' kk, n1 = n' + kk ∧ 0 < kk ∧ kk ≤ room ∧ ((n' = 0 ∧ kk < room) ∨ kk = room) := by
        by_cases h : n1 < room
        · exact ⟨0, n1, by omega, hlt, by omega, .inl ⟨rfl, h⟩⟩
        · exact ⟨n1 - room, room, by omega, by omega, by omega, .inr rfl⟩
      have hk8 : kk ≤ 8 := by omega
      rcases hor with ⟨rfl, hkl⟩ | rfl
      · simp only [Nat.zero_add] at *
        obtain ⟨sh, hsh, hsh8⟩ : ∃ sh : Nat, IntKind.i64.wrap ((room : Int) - (kk : Int)) = (sh : Int) ∧ Hid (sh = room - kk) := ⟨room - kk, by rw [IntKind.wrap_i64]; omega, rfl⟩
        have hsb : sh ≤ 8 := by have := hsh8.out; omega
        go_wp2_with fail
        go_quiet ((go_at_call 97; go_must (exact Calls.quiet_of_same (lowOnes_any kk _ hk8))))
        go_wp2_with fail
        have hst := look_step s a d a1 room kk q sh x hd.out.1 hroom hq hqs hk0 hkr hsh8.out (by have := hd.out; omega) (by omega) hx.out
        refine ⟨⟨d + kk, a1 + kk, 0, _, ⟨by have := hd.out; omega, by have := hd.out; omega⟩, by go_num, rfl, by rw [hst], rfl, ?_⟩, by simp [intOf]; omega⟩
        obtain ⟨m, rfl⟩ := hm.out
        exact ⟨m + nq, World.drewN_drewN _ _ _⟩
      · have hw0 : IntKind.i64.wrap 0 = 0 := by rw [IntKind.wrap_i64]; rfl
        go_wp2_with fail
        go_quiet ((go_at_call 97; go_must (exact Calls.quiet_of_same (lowOnes_any kk _ hk8))))
        go_wp2_with fail
        have hst := look_step s a d a1 kk kk q 0 x hd.out.1 hroom hq hqs hk0 hkr (by omega) (by have := hd.out; omega) (by omega) hx.out
        rw [Int.pow_zero, Int.ediv_one] at hst
        refine ⟨⟨d + kk, a1 + kk, n', _, ⟨by have := hd.out; omega, by have := hd.out; omega⟩, by go_num, rfl, by rw [hst], rfl, ?_⟩, by simp [intOf]; omega⟩
        obtain ⟨m, rfl⟩ := hm.out
        exact ⟨m + nq, World.drewN_drewN _ _ _⟩
    · go_wp2
      go_ret
      refine ⟨?_, hm.out⟩
      have hd' := hd.out
      have e : n = d := by omega
      show Ending.returned (.int .u64 (x : Int)) = _
      rw [hx.out, e]
end Go.Proofs.YtpdaklklhoenhaaGreatDoor

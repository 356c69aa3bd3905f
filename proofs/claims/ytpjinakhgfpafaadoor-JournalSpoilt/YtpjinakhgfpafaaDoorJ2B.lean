/- Numbers of four bytes, taken and laid. -/
import Derived.Test.YtpjinakhgfpafaaDoorJ2A
import Derived.BigQuiet
import Derived.Deep.AppendLies
namespace Go.Proofs.YtpjinakhgfpafaaDoor
open Go.RowKit
set_option linter.unusedVariables false
set_option linter.unusedSimpArgs false

theorem or_part (i a b : Nat) (h : b < 2 ^ i) : (a * 2 ^ i) ||| b = a * 2 ^ i + b := by
  have := Nat.two_pow_add_eq_or_of_lt h a
  rw [Nat.mul_comm a, this]

theorem or_four (c0 c1 c2 c3 : Nat) (h0 : c0 < 256) (h1 : c1 < 256) (h2 : c2 < 256) (h3 : c3 < 256) : bits BinOp.or IntKind.u32 (bits BinOp.or IntKind.u32 (bits BinOp.or IntKind.u32 ((c0 : Int) * 16777216) ((c1 : Int) * 65536)) ((c2 : Int) * 256)) (c3 : Int) = ((c0 * 16777216 + c1 * 65536 + c2 * 256 + c3 : Nat) : Int) := by
  have e1 : bits BinOp.or IntKind.u32 ((c0 : Int) * 16777216) ((c1 : Int) * 65536) = ((c0 * 16777216 + c1 * 65536 : Nat) : Int) := by
    have h := u32_or_nat (c0 * 16777216) (c1 * 65536) (by omega) (by omega)
    have q := or_part 24 c0 (c1 * 65536) (by show c1 * 65536 < 16777216; omega)
    rw [show (2 : Nat) ^ 24 = 16777216 from rfl] at q
    rw [q] at h
    rw [← h]; simp
  have e2 : bits BinOp.or IntKind.u32 ((c0 * 16777216 + c1 * 65536 : Nat) : Int) ((c2 : Int) * 256) = ((c0 * 16777216 + c1 * 65536 + c2 * 256 : Nat) : Int) := by
    have h := u32_or_nat (c0 * 16777216 + c1 * 65536) (c2 * 256) (by omega) (by omega)
    have q := or_part 16 (c0 * 256 + c1) (c2 * 256) (by show c2 * 256 < 65536; omega)
    rw [show (2 : Nat) ^ 16 = 65536 from rfl, show (c0 * 256 + c1) * 65536 = c0 * 16777216 + c1 * 65536 from by omega] at q
    rw [q] at h
    rw [← h]; simp
  have e3 : bits BinOp.or IntKind.u32 ((c0 * 16777216 + c1 * 65536 + c2 * 256 : Nat) : Int) (c3 : Int) = ((c0 * 16777216 + c1 * 65536 + c2 * 256 + c3 : Nat) : Int) := by
    have h := u32_or_nat (c0 * 16777216 + c1 * 65536 + c2 * 256) c3 (by omega) (by omega)
    have q := or_part 8 (c0 * 65536 + c1 * 256 + c2) c3 (by show c3 < 256; omega)
    rw [show (2 : Nat) ^ 8 = 256 from rfl, show (c0 * 65536 + c1 * 256 + c2) * 256 = c0 * 16777216 + c1 * 65536 + c2 * 256 from by omega] at q
    rw [q] at h
    exact h
  rw [e1, e2, e3]

set_option maxRecDepth 100000 in
set_option maxHeartbeats 1000000 in
theorem number_any (v : Value) (bs : List Nat) (w : World) (h : IsBy w v bs) (hb : ∀ n ∈ bs, n < 256) (h4 : 4 ≤ bs.length) (hl : bs.length ≤ 1000000000) :
    Calls Tryd.prog 69 #[v] w fun e w' => e = .returned (.int .u32 (num4 bs : Nat)) ∧ ∃ m, w' = w.drewN m := by
  obtain ⟨p, cap, rfl, hc⟩ := by_slice h
  obtain ⟨b, o, rfl, d0⟩ := hc 0 (by omega)
  have get : ∀ i, i < bs.length → w.cell? ⟨b, o + i, none⟩ = some (.int .u8 ((bs.getD i 0 : Nat) : Int)) := fun i hi => by
    obtain ⟨b', o', e, hh⟩ := hc i hi
    cases e; exact hh
  have d1 := get 1 (by omega)
  have d2 := get 2 (by omega)
  have d3 := get 3 (by omega)
  have g := fun i (hi : i < bs.length) => getD_lt hb i hi
  obtain ⟨c0, e0⟩ : ∃ c, bs.getD 0 0 = c := ⟨_, rfl⟩
  obtain ⟨c1, e1⟩ : ∃ c, bs.getD 1 0 = c := ⟨_, rfl⟩
  obtain ⟨c2, e2⟩ : ∃ c, bs.getD 2 0 = c := ⟨_, rfl⟩
  obtain ⟨c3, e3⟩ : ∃ c, bs.getD 3 0 = c := ⟨_, rfl⟩
  have h0 : c0 < 256 := by rw [← e0]; exact g 0 (by omega)
  have h1 : c1 < 256 := by rw [← e1]; exact g 1 (by omega)
  have h2 : c2 < 256 := by rw [← e2]; exact g 2 (by omega)
  have h3 : c3 < 256 := by rw [← e3]; exact g 3 (by omega)
  rw [e0] at d0; rw [e1] at d1; rw [e2] at d2; rw [e3] at d3
  have HN : Hid (num4 bs = c0 * 16777216 + c1 * 65536 + c2 * 256 + c3) := by rw [← e0, ← e1, ← e2, ← e3]; rfl
  obtain ⟨n, hn⟩ : ∃ n, bs.length = n := ⟨_, rfl⟩
  rw [hn] at h4 hl ⊢
  have r0 : IntKind.u32.wrap (c0 : Int) = (c0 : Int) := by rw [IntKind.wrap_u32]; omega
  have r1 : IntKind.u32.wrap (c1 : Int) = (c1 : Int) := by rw [IntKind.wrap_u32]; omega
  have r2 : IntKind.u32.wrap (c2 : Int) = (c2 : Int) := by rw [IntKind.wrap_u32]; omega
  have r3 : IntKind.u32.wrap (c3 : Int) = (c3 : Int) := by rw [IntKind.wrap_u32]; omega
  rw [HN.out]
  rw [Nat.add_zero] at d0
  clear h hb hc get g e0 e1 e2 e3 hn HN
  go_enter Tryd.func69, Tryd.ntmps69
  go_wp2_with fail
  go_quiet (fail)
  rw [or_four c0 c1 c2 c3 h0 h1 h2 h3]
  go_wp2_with fail
  go_ret
  exact ⟨rfl, _, rfl⟩

set_option maxRecDepth 100000 in
theorem laid_any {B : Nat} (w : World) (v : Value) (bs : List Nat) (x : Nat) (ho : w.ownsRow B 5 1 v bs.length (bytesV bs)) (hB : B ≤ w.heap.size) (hx : x < 4294967296) (hl : bs.length ≤ 1000000000) :
    Calls Tryd.prog 50 #[v, .int .u32 (x : Int)] w fun e w' => ∃ v2, e = .returned v2 ∧ w'.ownsRow B 5 1 v2 (bs ++ four x).length (bytesV (bs ++ four x)) ∧ w.grownBy w' v.ownBlock ∧ (v2.ownBlock = v.ownBlock ∨ ∃ g, v2.ownBlock = some g ∧ w.heap.size ≤ g) := by
  obtain ⟨i5, hi5⟩ := info5
  have Hi := hide hi5
  clear hi5
  obtain ⟨p, cap, hv⟩ : ∃ p cap, v = .slice p bs.length cap := by
    rcases ho.2 with ⟨e1, e2⟩ | ⟨g, cap, cur, e1, _⟩
    · exact ⟨none, 0, by rw [e1, e2]⟩
    · exact ⟨_, cap, e1⟩
  subst hv
  have HO := hide ho
  obtain ⟨n, hn⟩ : ∃ n, bs.length = n := ⟨_, rfl⟩
  have Hn := hide hn
  rw [hn] at hl HO ⊢
  clear ho hn
  have HV : Hid (([.int .u8 ((x : Int) / 16777216), .int .u8 ((x : Int) / 65536 % 256), .int .u8 ((x : Int) / 256 % 256), .int .u8 ((x : Int) % 256)] : List Value) = bytesV (four x)) := by
    unfold four bytesV
    simp only [List.map_cons, List.map_nil]
    have e1 : ((x / 16777216 % 256 : Nat) : Int) = (x : Int) / 16777216 := by omega
    have e2 : ((x / 65536 % 256 : Nat) : Int) = (x : Int) / 65536 % 256 := by omega
    have e3 : ((x / 256 % 256 : Nat) : Int) = (x : Int) / 256 % 256 := by omega
    have e4 : ((x % 256 : Nat) : Int) = (x : Int) % 256 := by omega
    rw [e1, e2, e3, e4]; rfl
  have HL : Hid (w.grownBy (w.alloc (.cells #[.int .u8 ((x : Int) / 16777216), .int .u8 ((x : Int) / 65536 % 256), .int .u8 ((x : Int) / 256 % 256), .int .u8 ((x : Int) % 256)] 5)) (Value.slice p n cap).ownBlock) := World.grownBy_alloc w _ _
  go_enter Tryd.func50, Tryd.ntmps50
  go_wp2_with (at_builtin; refine wpList_append_own_at _ rfl _ _ _ rfl B 5 i5 (.int .u8 0) 1 1 Tryd.underlying30 Hi.out.1 Hi.out.2.1 Hi.out.2.2.1 Hi.out.2.2.2 rfl (by decide) (.slice p n cap) n (bytesV bs) rfl (HO.out.alloc _) ⟨w.heap.size, 0, none⟩ 4 4 [.int .u8 ((x : Int) / 16777216), .int .u8 ((x : Int) / 65536 % 256), .int .u8 ((x : Int) / 256 % 256), .int .u8 ((x : Int) % 256)] rfl rfl (World.news_of_block (heap_alloc_new w _)) ?f1 ?f4 ?f5 ?f7 ?f6)
  case f1 => intro u hu; simp only [List.mem_cons, List.not_mem_nil, or_false] at hu; rcases hu with rfl | rfl | rfl | rfl <;> rfl
  case f4 => unfold maxLen; omega
  case f5 => omega
  case f7 => simp; omega
  case f6 =>
    intro v2 w2 ho2 hg2 _ hat
    have HF : Hid (w2.ownsRow B 5 1 v2 (bs ++ four x).length (bytesV (bs ++ four x)) ∧ w.grownBy w2 (Value.slice p n cap).ownBlock ∧ (v2.ownBlock = (Value.slice p n cap).ownBlock ∨ ∃ g, v2.ownBlock = some g ∧ w.heap.size ≤ g)) := by
      refine ⟨?_, ?_, ?_⟩
      · rw [List.length_append, bytesV_app, Hn.out, ← HV.out]; exact ho2
      · exact ⟨hg2.os.trans HL.out.os, hg2.tape.trans HL.out.tape, hg2.output.trans HL.out.output, Nat.le_trans HL.out.size hg2.size, fun k hk hne => (hg2.block k (Nat.lt_of_lt_of_le hk HL.out.size) hne).trans (HL.out.block k hk hne)⟩
      · rcases hat with e | e
        · exact .inl e
        · exact .inr ⟨_, e, by simp⟩
    clear ho2 hg2 hat
    go_wp2_with fail
    go_ret
    exact ⟨_, rfl, HF.out⟩

end Go.Proofs.YtpjinakhgfpafaaDoor

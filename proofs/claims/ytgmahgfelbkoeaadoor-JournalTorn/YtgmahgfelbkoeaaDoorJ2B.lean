/- Numbers of four bytes, taken and laid. -/
import Derived.Test.YtgmahgfelbkoeaaDoorJ1L
import Derived.WalkMore
import Derived.ScopeJumps
import Derived.BigQuiet
import Derived.Deep.AppendLies
/- A scope with labels to which the run jumps either way; records as plain data. -/
namespace Go.Proofs.YtgmahgfelbkoeaaDoor
open Go.RowKit
set_option linter.unusedVariables false
set_option linter.unusedSimpArgs false

/-- As Q; by a goto: what holds at the label, with a smaller measure. -/
def SI (I : Nat → Nat → Act → World → Prop) (Q : Exit → Act → World → Prop) (m : Nat) : Exit → Act → World → Prop
  | .goto l, a, w => ∃ m', m' < m ∧ I l m' a w
  | .normal, a, w => Q .normal a w
  | .exit id, a, w => Q (.exit id) a w
  | .ret, a, w => Q .ret a w
  | .panic ch, a, w => Q (.panic ch) a w
  | .outgrown, a, w => Q .outgrown a w

theorem SI.mono {I : Nat → Nat → Act → World → Prop} {Q : Exit → Act → World → Prop} {m n : Nat} (h : m ≤ n) : ∀ e a w, SI I Q m e a w → SI I Q n e a w := by
  intro e a w hs
  cases e with
  | goto l => obtain ⟨m', h1, h2⟩ := hs; exact ⟨m', Nat.lt_of_lt_of_le h1 h, h2⟩
  | _ => exact hs

theorem wp_scope_inv {P : Program} {a : Act} {w : World} {Q : Exit → Act → World → Prop} {c : Code} (I : Nat → Nat → Act → World → Prop) (m : Nat)
    (hI : ∀ l m a w, I l m a w → (∀ l' m' a' w' rest, m' < m → I l' m' a' w' → findLabel c l' = some (.seq .skip rest) → rest.wp P (SI I Q m) a' w') → ∃ rest, findLabel c l = some (.seq .skip rest) ∧ rest.wp P (SI I Q m) a w)
    (h : (∀ l' m' a' w' rest, m' < m → I l' m' a' w' → findLabel c l' = some (.seq .skip rest) → rest.wp P (SI I Q m) a' w') → c.wp P (SI I Q m) a w) : (Code.scope c).wp P Q a w := by
  have all : ∀ m l a w, I l m a w → ∃ rest, findLabel c l = some (.seq .skip rest) ∧ rest.wp P (SI I Q m) a w := by
    intro m
    induction m using Nat.strongRecOn with
    | _ m ih =>
      intro l a w hi
      refine hI l m a w hi fun l' m' a' w' rest hm hi' hf => ?_
      obtain ⟨r, hr, hw⟩ := ih m' hm l' a' w' hi'
      rw [hf] at hr
      cases hr
      exact Code.wp_mono (SI.mono (Nat.le_of_lt hm)) hw
  intro b k cs
  have key : ∀ n (rest : Code) a w, rest.wp P (SI I Q n) a w → ∃ e a' w', Q e a' w' ∧ Arrives P (lone (b.at a (.code rest :: .inScope c :: k)) cs w) b k cs e a' w' := by
    intro n
    induction n using Nat.strongRecOn with
    | _ n ih =>
      intro rest a w hr
      obtain ⟨e, a₁, w₁, hq, harr⟩ := hr b (.inScope c :: k) cs
      cases e with
      | normal => exact ⟨.normal, a₁, w₁, hq, Steps.trans harr (.one step_inScope)⟩
      | exit id => exact ⟨.exit id, a₁, w₁, hq, fun k' hk => harr k' (by simp [exitTo, hk])⟩
      | goto l' =>
        obtain ⟨m', hm, hi⟩ := hq
        obtain ⟨r, hf, hr2⟩ := all m' l' a₁ w₁ hi
        have hg : gotoIn l' (.inScope c :: k) = some (.code (.seq .skip r) :: .inScope c :: k) := by simp [gotoIn, hf]
        obtain ⟨e₂, a₂, w₂, hq₂, harr₂⟩ := ih m' hm (.seq .skip r) a₁ w₁ (wp_seq (wp_skip hr2))
        exact ⟨e₂, a₂, w₂, hq₂, .of_steps (harr _ hg) harr₂⟩
      | ret => exact ⟨_, a₁, w₁, hq, harr⟩
      | panic ch => exact ⟨_, a₁, w₁, hq, harr⟩
      | outgrown => exact ⟨_, a₁, w₁, hq, harr⟩
  obtain ⟨e, a₁, w₁, hq, harr⟩ := key m c a w (h fun l' m' a' w' rest hm hi' hf => by
    obtain ⟨r, hr, hw⟩ := all m' l' a' w' hi'
    rw [hf] at hr
    cases hr
    exact Code.wp_mono (SI.mono (Nat.le_of_lt hm)) hw)
  exact ⟨e, a₁, w₁, hq, .of_steps (.one step_scope) harr⟩

theorem list_getD (l : List Value) (n : Nat) (h : l.length = n) : (List.range n).map (fun i => l.getD i undef) = l := by
  apply List.ext_getElem (by simp [h])
  intro i h1 h2
  simp [List.getD, h2]

theorem range94 (u : Nat → Value) : (List.range 94).map u = [u 0, u 1, u 2, u 3, u 4, u 5, u 6, u 7, u 8, u 9, u 10, u 11, u 12, u 13, u 14, u 15, u 16, u 17, u 18, u 19, u 20, u 21, u 22, u 23, u 24, u 25, u 26, u 27, u 28, u 29, u 30, u 31, u 32, u 33, u 34, u 35, u 36, u 37, u 38, u 39, u 40, u 41, u 42, u 43, u 44, u 45, u 46, u 47, u 48, u 49, u 50, u 51, u 52, u 53, u 54, u 55, u 56, u 57, u 58, u 59, u 60, u 61, u 62, u 63, u 64, u 65, u 66, u 67, u 68, u 69, u 70, u 71, u 72, u 73, u 74, u 75, u 76, u 77, u 78, u 79, u 80, u 81, u 82, u 83, u 84, u 85, u 86, u 87, u 88, u 89, u 90, u 91, u 92, u 93] := by rfl

/-- A frame of 94 slots. -/
theorem act94 (a : Act) (h : a.tmps.size = 94) (hd : a.defers = []) : ∃ u : Nat → Value, (∀ i, u i = a.tmps.getD i undef) ∧ a = { tmps := #[u 0, u 1, u 2, u 3, u 4, u 5, u 6, u 7, u 8, u 9, u 10, u 11, u 12, u 13, u 14, u 15, u 16, u 17, u 18, u 19, u 20, u 21, u 22, u 23, u 24, u 25, u 26, u 27, u 28, u 29, u 30, u 31, u 32, u 33, u 34, u 35, u 36, u 37, u 38, u 39, u 40, u 41, u 42, u 43, u 44, u 45, u 46, u 47, u 48, u 49, u 50, u 51, u 52, u 53, u 54, u 55, u 56, u 57, u 58, u 59, u 60, u 61, u 62, u 63, u 64, u 65, u 66, u 67, u 68, u 69, u 70, u 71, u 72, u 73, u 74, u 75, u 76, u 77, u 78, u 79, u 80, u 81, u 82, u 83, u 84, u 85, u 86, u 87, u 88, u 89, u 90, u 91, u 92, u 93], defers := [] } := by
  obtain ⟨⟨l⟩, d⟩ := a
  have hl : l.length = 94 := h
  obtain rfl : d = [] := hd
  refine ⟨fun i => l.getD i undef, fun i => by simp [List.getD], ?_⟩
  congr 1
  exact congrArg List.toArray ((list_getD l 94 hl).symm.trans (range94 _))

def four (x : Nat) : List Nat := [x / 16777216 % 256, x / 65536 % 256, x / 256 % 256, x % 256]
theorem four_lt (x : Nat) : ∀ n ∈ four x, n < 256 := by
  intro n hn
  simp only [four, List.mem_cons, List.not_mem_nil, or_false] at hn
  rcases hn with rfl | rfl | rfl | rfl <;> omega

/-- The first four bytes as a number. -/
def num4 (l : List Nat) : Nat := l.getD 0 0 * 16777216 + l.getD 1 0 * 65536 + l.getD 2 0 * 256 + l.getD 3 0

theorem num4_four (x : Nat) (h : x < 4294967296) (r : List Nat) : num4 (four x ++ r) = x := by
  simp [num4, four, List.getD]; omega

/-- A record's body; a record; a file's head. -/
def bodyB : List (List Nat) → List Nat
  | [] => []
  | r :: t => four r.length ++ r ++ bodyB t
def recB (rs : List (List Nat)) : List Nat := four (bodyB rs).length ++ four (crcO (four (bodyB rs).length ++ bodyB rs)) ++ bodyB rs
def headB : List Nat := [70, 65, 84, 72, 79, 77, 74, 49]

/-- What stands ahead. -/
inductive RH where
  | stop
  | bad
  | go (a b : List Nat)

def rowHead (body : List Nat) (k : Nat) : RH := if body.length = 0 then .stop else if body.length < 4 then .bad else if body.length - 4 < num4 body then .bad else if k = 4096 then .bad else .go ((body.drop 4).take (num4 body)) (body.drop (4 + num4 body))

/-- Rows out of a body, behind others. -/
def tkRows : Nat → List Nat → List (List Nat) → Option (List (List Nat))
  | 0, _, _ => none
  | f + 1, body, rows => match rowHead body rows.length with
    | .stop => some rows
    | .bad => none
    | .go r b => tkRows f b (rows ++ [r])

def recHead (left : List Nat) : RH := if left.length < 8 then .stop else if 4194304 < num4 left then .bad else if left.length - 8 < num4 left then .stop else if crcO (left.take 4 ++ (left.drop 8).take (num4 left)) ≠ num4 (left.drop 4) then .bad else .go ((left.drop 8).take (num4 left)) (left.drop (8 + num4 left))

/-- Records out of what is left, behind others; and how much is left then. -/
def tkRecs : Nat → List Nat → List (List (List Nat)) → Option (List (List (List Nat)) × Nat)
  | 0, _, _ => none
  | f + 1, left, recs => match recHead left with
    | .stop => some (recs, left.length)
    | .bad => none
    | .go b l => match tkRows (b.length + 1) b [] with
      | none => none
      | some rows => tkRecs f l (recs ++ [rows])

theorem tkRows_step (f : Nat) (body : List Nat) (rows : List (List Nat)) : tkRows (f + 1) body rows = match rowHead body rows.length with
    | .stop => some rows
    | .bad => none
    | .go r b => tkRows f b (rows ++ [r]) := by rw [tkRows]
theorem tkRecs_step (f : Nat) (left : List Nat) (recs : List (List (List Nat))) : tkRecs (f + 1) left recs = match recHead left with
    | .stop => some (recs, left.length)
    | .bad => none
    | .go b l => match tkRows (b.length + 1) b [] with
      | none => none
      | some rows => tkRecs f l (recs ++ [rows]) := by rw [tkRecs]

/-- What a file's bytes hold. -/
def tk (bs : List Nat) : Option (List (List (List Nat)) × Nat) := if bs.take 8 = headB then (tkRecs (bs.length + 1) (bs.drop 8) []).map fun q => (q.1, bs.length - q.2) else none

end Go.Proofs.YtgmahgfelbkoeaaDoor

namespace Go.Proofs.YtgmahgfelbkoeaaDoor
open Go.RowKit
set_option linter.unusedVariables false
set_option linter.unusedSimpArgs false

theorem or_part (i a b : Nat) (h : b < 2 ^ i) : (a * 2 ^ i) ||| b = a * 2 ^ i + b := by
  have := Nat.two_pow_add_eq_or_of_lt h a
  rw [Nat.mul_comm a, this]

theorem or_four (c0 c1 c2 c3 : Nat) (h0 : c0 < 256) (h1 : c1 < 256) (h2 : c2 < 256) (h3 : c3 < 256) : bits BinOp.or IntKind.u32 (bits BinOp.or IntKind.u32 (bits BinOp.or IntKind.u32 ((c0 : Int) * 16777216) ((c1 : Int) * 65536)) ((c2 : Int) * 256)) (c3 : Int) = ((c0 * 16777216 + c1 * 65536 + c2 * 256 + c3 : Nat) : Int) := by
  have e1 : bits BinOp.or IntKind.u32 ((c0 : Int) * 16777216) ((c1 : Int) * 65536) = ((c0 * 16777216 + c1 * 65536 : Nat) : Int) := by
    have h := u32_or_nat (c0 * 16777216) (c1 * 65536) (by omega) (by omega)
    have q := or_part 24 c0 (c1 * 65536) (by show c1 * 65536 < 16777216; omega)
    rw [show (2 : Nat) ^ 24 = 16777216 from rfl] at q
    rw [q] at h
    rw [← h]; simp
  have e2 : bits BinOp.or IntKind.u32 ((c0 * 16777216 + c1 * 65536 : Nat) : Int) ((c2 : Int) * 256) = ((c0 * 16777216 + c1 * 65536 + c2 * 256 : Nat) : Int) := by
    have h := u32_or_nat (c0 * 16777216 + c1 * 65536) (c2 * 256) (by omega) (by omega)
    have q := or_part 16 (c0 * 256 + c1) (c2 * 256) (by show c2 * 256 < 65536; omega)
    rw [show (2 : Nat) ^ 16 = 65536 from rfl, show (c0 * 256 + c1) * 65536 = c0 * 16777216 + c1 * 65536 from by omega] at q
    rw [q] at h
    rw [← h]; simp
  have e3 : bits BinOp.or IntKind.u32 ((c0 * 16777216 + c1 * 65536 + c2 * 256 : Nat) : Int) (c3 : Int) = ((c0 * 16777216 + c1 * 65536 + c2 * 256 + c3 : Nat) : Int) := by
    have h := u32_or_nat (c0 * 16777216 + c1 * 65536 + c2 * 256) c3 (by omega) (by omega)
    have q := or_part 8 (c0 * 65536 + c1 * 256 + c2) c3 (by show c3 < 256; omega)
    rw [show (2 : Nat) ^ 8 = 256 from rfl, show (c0 * 65536 + c1 * 256 + c2) * 256 = c0 * 16777216 + c1 * 65536 + c2 * 256 from by omega] at q
    rw [q] at h
    exact h
  rw [e1, e2, e3]

set_option maxRecDepth 100000 in
set_option maxHeartbeats 1000000 in
theorem number_any (v : Value) (bs : List Nat) (w : World) (h : IsBy w v bs) (hb : ∀ n ∈ bs, n < 256) (h4 : 4 ≤ bs.length) (hl : bs.length ≤ 1000000000) :
    Calls Tryd.prog 54 #[v] w fun e w' => e = .returned (.int .u32 (num4 bs : Nat)) ∧ ∃ m, w' = w.drewN m := by
  obtain ⟨p, cap, rfl, hc⟩ := by_slice h
  obtain ⟨b, o, rfl, d0⟩ := hc 0 (by omega)
  have get : ∀ i, i < bs.length → w.cell? ⟨b, o + i, none⟩ = some (.int .u8 ((bs.getD i 0 : Nat) : Int)) := fun i hi => by
    obtain ⟨b', o', e, hh⟩ := hc i hi
    cases e; exact hh
  have d1 := get 1 (by omega)
  have d2 := get 2 (by omega)
  have d3 := get 3 (by omega)
  have g := fun i (hi : i < bs.length) => getD_lt hb i hi
  obtain ⟨c0, e0⟩ : ∃ c, bs.getD 0 0 = c := ⟨_, rfl⟩
  obtain ⟨c1, e1⟩ : ∃ c, bs.getD 1 0 = c := ⟨_, rfl⟩
  obtain ⟨c2, e2⟩ : ∃ c, bs.getD 2 0 = c := ⟨_, rfl⟩
  obtain ⟨c3, e3⟩ : ∃ c, bs.getD 3 0 = c := ⟨_, rfl⟩
  have h0 : c0 < 256 := by rw [← e0]; exact g 0 (by omega)
  have h1 : c1 < 256 := by rw [← e1]; exact g 1 (by omega)
  have h2 : c2 < 256 := by rw [← e2]; exact g 2 (by omega)
  have h3 : c3 < 256 := by rw [← e3]; exact g 3 (by omega)
  rw [e0] at d0; rw [e1] at d1; rw [e2] at d2; rw [e3] at d3
  have HN : Hid (num4 bs = c0 * 16777216 + c1 * 65536 + c2 * 256 + c3) := by rw [← e0, ← e1, ← e2, ← e3]; rfl
  obtain ⟨n, hn⟩ : ∃ n, bs.length = n := ⟨_, rfl⟩
  rw [hn] at h4 hl ⊢
  have r0 : IntKind.u32.wrap (c0 : Int) = (c0 : Int) := by rw [IntKind.wrap_u32]; omega
  have r1 : IntKind.u32.wrap (c1 : Int) = (c1 : Int) := by rw [IntKind.wrap_u32]; omega
  have r2 : IntKind.u32.wrap (c2 : Int) = (c2 : Int) := by rw [IntKind.wrap_u32]; omega
  have r3 : IntKind.u32.wrap (c3 : Int) = (c3 : Int) := by rw [IntKind.wrap_u32]; omega
  rw [HN.out]
  rw [Nat.add_zero] at d0
  clear h hb hc get g e0 e1 e2 e3 hn HN
  go_enter Tryd.func54, Tryd.ntmps54
  go_wp2_with fail
  go_quiet (fail)
  rw [or_four c0 c1 c2 c3 h0 h1 h2 h3]
  go_wp2_with fail
  go_ret
  exact ⟨rfl, _, rfl⟩

set_option maxRecDepth 100000 in
theorem laid_any {B : Nat} (w : World) (v : Value) (bs : List Nat) (x : Nat) (ho : w.ownsRow B 5 1 v bs.length (bytesV bs)) (hB : B ≤ w.heap.size) (hx : x < 4294967296) (hl : bs.length ≤ 1000000000) :
    Calls Tryd.prog 39 #[v, .int .u32 (x : Int)] w fun e w' => ∃ v2, e = .returned v2 ∧ w'.ownsRow B 5 1 v2 (bs ++ four x).length (bytesV (bs ++ four x)) ∧ w.grownBy w' v.ownBlock ∧ (v2.ownBlock = v.ownBlock ∨ ∃ g, v2.ownBlock = some g ∧ w.heap.size ≤ g) := by
  obtain ⟨i5, hi5⟩ := info5
  have Hi := hide hi5
  clear hi5
  obtain ⟨p, cap, hv⟩ : ∃ p cap, v = .slice p bs.length cap := by
    rcases ho.2 with ⟨e1, e2⟩ | ⟨g, cap, cur, e1, _⟩
    · exact ⟨none, 0, by rw [e1, e2]⟩
    · exact ⟨_, cap, e1⟩
  subst hv
  have HO := hide ho
  obtain ⟨n, hn⟩ : ∃ n, bs.length = n := ⟨_, rfl⟩
  have Hn := hide hn
  rw [hn] at hl HO ⊢
  clear ho hn
  have HV : Hid (([.int .u8 ((x : Int) / 16777216), .int .u8 ((x : Int) / 65536 % 256), .int .u8 ((x : Int) / 256 % 256), .int .u8 ((x : Int) % 256)] : List Value) = bytesV (four x)) := by
    unfold four bytesV
    simp only [List.map_cons, List.map_nil]
    have e1 : ((x / 16777216 % 256 : Nat) : Int) = (x : Int) / 16777216 := by omega
    have e2 : ((x / 65536 % 256 : Nat) : Int) = (x : Int) / 65536 % 256 := by omega
    have e3 : ((x / 256 % 256 : Nat) : Int) = (x : Int) / 256 % 256 := by omega
    have e4 : ((x % 256 : Nat) : Int) = (x : Int) % 256 := by omega
    rw [e1, e2, e3, e4]; rfl
  have HL : Hid (w.grownBy (w.alloc (.cells #[.int .u8 ((x : Int) / 16777216), .int .u8 ((x : Int) / 65536 % 256), .int .u8 ((x : Int) / 256 % 256), .int .u8 ((x : Int) % 256)] 5)) (Value.slice p n cap).ownBlock) := World.grownBy_alloc w _ _
  go_enter Tryd.func39, Tryd.ntmps39
  go_wp2_with (at_builtin; refine wpList_append_own_at _ rfl _ _ _ rfl B 5 i5 (.int .u8 0) 1 1 Tryd.underlying38 Hi.out.1 Hi.out.2.1 Hi.out.2.2.1 Hi.out.2.2.2 rfl (by decide) (.slice p n cap) n (bytesV bs) rfl (HO.out.alloc _) ⟨w.heap.size, 0, none⟩ 4 4 [.int .u8 ((x : Int) / 16777216), .int .u8 ((x : Int) / 65536 % 256), .int .u8 ((x : Int) / 256 % 256), .int .u8 ((x : Int) % 256)] rfl rfl (World.news_of_block (heap_alloc_new w _)) ?f1 ?f4 ?f5 ?f7 ?f6)
  case f1 => intro u hu; simp only [List.mem_cons, List.not_mem_nil, or_false] at hu; rcases hu with rfl | rfl | rfl | rfl <;> rfl
  case f4 => unfold maxLen; omega
  case f5 => omega
  case f7 => simp; omega
  case f6 =>
    intro v2 w2 ho2 hg2 _ hat
    have HF : Hid (w2.ownsRow B 5 1 v2 (bs ++ four x).length (bytesV (bs ++ four x)) ∧ w.grownBy w2 (Value.slice p n cap).ownBlock ∧ (v2.ownBlock = (Value.slice p n cap).ownBlock ∨ ∃ g, v2.ownBlock = some g ∧ w.heap.size ≤ g)) := by
      refine ⟨?_, ?_, ?_⟩
      · rw [List.length_append, bytesV_app, Hn.out, ← HV.out]; exact ho2
      · exact ⟨hg2.os.trans HL.out.os, hg2.tape.trans HL.out.tape, hg2.output.trans HL.out.output, Nat.le_trans HL.out.size hg2.size, fun k hk hne => (hg2.block k (Nat.lt_of_lt_of_le hk HL.out.size) hne).trans (HL.out.block k hk hne)⟩
      · rcases hat with e | e
        · exact .inl e
        · exact .inr ⟨_, e, by simp⟩
    clear ho2 hg2 hat
    go_wp2_with fail
    go_ret
    exact ⟨_, rfl, HF.out⟩

end Go.Proofs.YtgmahgfelbkoeaaDoor

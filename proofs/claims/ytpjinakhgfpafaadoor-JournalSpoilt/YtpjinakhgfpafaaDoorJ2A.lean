/- A scope with labels to which the run jumps either way; records as plain data. -/
import Derived.Test.YtpjinakhgfpafaaDoorJ1L
import Derived.WalkMore
import Derived.ScopeJumps
namespace Go.Proofs.YtpjinakhgfpafaaDoor
open Go.RowKit
set_option linter.unusedVariables false
set_option linter.unusedSimpArgs false

/-- As Q; by a goto: what holds at the label, with a smaller measure. -/
def SI (I : Nat → Nat → Act → World → Prop) (Q : Exit → Act → World → Prop) (m : Nat) : Exit → Act → World → Prop
  | .goto l, a, w => ∃ m', m' < m ∧ I l m' a w
  | .normal, a, w => Q .normal a w
  | .exit id, a, w => Q (.exit id) a w
  | .ret, a, w => Q .ret a w
  | .panic ch, a, w => Q (.panic ch) a w
  | .outgrown, a, w => Q .outgrown a w

theorem SI.mono {I : Nat → Nat → Act → World → Prop} {Q : Exit → Act → World → Prop} {m n : Nat} (h : m ≤ n) : ∀ e a w, SI I Q m e a w → SI I Q n e a w := by
  intro e a w hs
  cases e with
  | goto l => obtain ⟨m', h1, h2⟩ := hs; exact ⟨m', Nat.lt_of_lt_of_le h1 h, h2⟩
  | _ => exact hs

theorem wp_scope_inv {P : Program} {a : Act} {w : World} {Q : Exit → Act → World → Prop} {c : Code} (I : Nat → Nat → Act → World → Prop) (m : Nat)
    (hI : ∀ l m a w, I l m a w → (∀ l' m' a' w' rest, m' < m → I l' m' a' w' → findLabel c l' = some (.seq .skip rest) → rest.wp P (SI I Q m) a' w') → ∃ rest, findLabel c l = some (.seq .skip rest) ∧ rest.wp P (SI I Q m) a w)
    (h : (∀ l' m' a' w' rest, m' < m → I l' m' a' w' → findLabel c l' = some (.seq .skip rest) → rest.wp P (SI I Q m) a' w') → c.wp P (SI I Q m) a w) : (Code.scope c).wp P Q a w := by
  have all : ∀ m l a w, I l m a w → ∃ rest, findLabel c l = some (.seq .skip rest) ∧ rest.wp P (SI I Q m) a w := by
    intro m
    induction m using Nat.strongRecOn with
    | _ m ih =>
      intro l a w hi
      refine hI l m a w hi fun l' m' a' w' rest hm hi' hf => ?_
      obtain ⟨r, hr, hw⟩ := ih m' hm l' a' w' hi'
      rw [hf] at hr
      cases hr
      exact Code.wp_mono (SI.mono (Nat.le_of_lt hm)) hw
  intro b k cs
  have key : ∀ n (rest : Code) a w, rest.wp P (SI I Q n) a w → ∃ e a' w', Q e a' w' ∧ Arrives P (lone (b.at a (.code rest :: .inScope c :: k)) cs w) b k cs e a' w' := by
    intro n
    induction n using Nat.strongRecOn with
    | _ n ih =>
      intro rest a w hr
      obtain ⟨e, a₁, w₁, hq, harr⟩ := hr b (.inScope c :: k) cs
      cases e with
      | normal => exact ⟨.normal, a₁, w₁, hq, Steps.trans harr (.one step_inScope)⟩
      | exit id => exact ⟨.exit id, a₁, w₁, hq, fun k' hk => harr k' (by simp [exitTo, hk])⟩
      | goto l' =>
        obtain ⟨m', hm, hi⟩ := hq
        obtain ⟨r, hf, hr2⟩ := all m' l' a₁ w₁ hi
        have hg : gotoIn l' (.inScope c :: k) = some (.code (.seq .skip r) :: .inScope c :: k) := by simp [gotoIn, hf]
        obtain ⟨e₂, a₂, w₂, hq₂, harr₂⟩ := ih m' hm (.seq .skip r) a₁ w₁ (wp_seq (wp_skip hr2))
        exact ⟨e₂, a₂, w₂, hq₂, .of_steps (harr _ hg) harr₂⟩
      | ret => exact ⟨_, a₁, w₁, hq, harr⟩
      | panic ch => exact ⟨_, a₁, w₁, hq, harr⟩
      | outgrown => exact ⟨_, a₁, w₁, hq, harr⟩
  obtain ⟨e, a₁, w₁, hq, harr⟩ := key m c a w (h fun l' m' a' w' rest hm hi' hf => by
    obtain ⟨r, hr, hw⟩ := all m' l' a' w' hi'
    rw [hf] at hr
    cases hr
    exact Code.wp_mono (SI.mono (Nat.le_of_lt hm)) hw)
  exact ⟨e, a₁, w₁, hq, .of_steps (.one step_scope) harr⟩

theorem list_getD (l : List Value) (n : Nat) (h : l.length = n) : (List.range n).map (fun i => l.getD i undef) = l := by
  apply List.ext_getElem (by simp [h])
  intro i h1 h2
  simp [List.getD, h2]

theorem range94 (u : Nat → Value) : (List.range 94).map u = [u 0, u 1, u 2, u 3, u 4, u 5, u 6, u 7, u 8, u 9, u 10, u 11, u 12, u 13, u 14, u 15, u 16, u 17, u 18, u 19, u 20, u 21, u 22, u 23, u 24, u 25, u 26, u 27, u 28, u 29, u 30, u 31, u 32, u 33, u 34, u 35, u 36, u 37, u 38, u 39, u 40, u 41, u 42, u 43, u 44, u 45, u 46, u 47, u 48, u 49, u 50, u 51, u 52, u 53, u 54, u 55, u 56, u 57, u 58, u 59, u 60, u 61, u 62, u 63, u 64, u 65, u 66, u 67, u 68, u 69, u 70, u 71, u 72, u 73, u 74, u 75, u 76, u 77, u 78, u 79, u 80, u 81, u 82, u 83, u 84, u 85, u 86, u 87, u 88, u 89, u 90, u 91, u 92, u 93] := by rfl

/-- A frame of 94 slots. -/
theorem act94 (a : Act) (h : a.tmps.size = 94) (hd : a.defers = []) : ∃ u : Nat → Value, (∀ i, u i = a.tmps.getD i undef) ∧ a = { tmps := #[u 0, u 1, u 2, u 3, u 4, u 5, u 6, u 7, u 8, u 9, u 10, u 11, u 12, u 13, u 14, u 15, u 16, u 17, u 18, u 19, u 20, u 21, u 22, u 23, u 24, u 25, u 26, u 27, u 28, u 29, u 30, u 31, u 32, u 33, u 34, u 35, u 36, u 37, u 38, u 39, u 40, u 41, u 42, u 43, u 44, u 45, u 46, u 47, u 48, u 49, u 50, u 51, u 52, u 53, u 54, u 55, u 56, u 57, u 58, u 59, u 60, u 61, u 62, u 63, u 64, u 65, u 66, u 67, u 68, u 69, u 70, u 71, u 72, u 73, u 74, u 75, u 76, u 77, u 78, u 79, u 80, u 81, u 82, u 83, u 84, u 85, u 86, u 87, u 88, u 89, u 90, u 91, u 92, u 93], defers := [] } := by
  obtain ⟨⟨l⟩, d⟩ := a
  have hl : l.length = 94 := h
  obtain rfl : d = [] := hd
  refine ⟨fun i => l.getD i undef, fun i => by simp [List.getD], ?_⟩
  congr 1
  exact congrArg List.toArray ((list_getD l 94 hl).symm.trans (range94 _))

def four (x : Nat) : List Nat := [x / 16777216 % 256, x / 65536 % 256, x / 256 % 256, x % 256]
theorem four_lt (x : Nat) : ∀ n ∈ four x, n < 256 := by
  intro n hn
  simp only [four, List.mem_cons, List.not_mem_nil, or_false] at hn
  rcases hn with rfl | rfl | rfl | rfl <;> omega

/-- The first four bytes as a number. -/
def num4 (l : List Nat) : Nat := l.getD 0 0 * 16777216 + l.getD 1 0 * 65536 + l.getD 2 0 * 256 + l.getD 3 0

theorem num4_four (x : Nat) (h : x < 4294967296) (r : List Nat) : num4 (four x ++ r) = x := by
  simp [num4, four, List.getD]; omega

/-- A record's body; a record; a file's head. -/
def bodyB : List (List Nat) → List Nat
  | [] => []
  | r :: t => four r.length ++ r ++ bodyB t
def recB (rs : List (List Nat)) : List Nat := four (bodyB rs).length ++ four (crcO (four (bodyB rs).length ++ bodyB rs)) ++ bodyB rs
def headB : List Nat := [70, 65, 84, 72, 79, 77, 74, 49]

/-- What stands ahead. -/
inductive RH where
  | stop
  | bad
  | go (a b : List Nat)

def rowHead (body : List Nat) (k : Nat) : RH := if body.length = 0 then .stop else if body.length < 4 then .bad else if body.length - 4 < num4 body then .bad else if k = 4096 then .bad else .go ((body.drop 4).take (num4 body)) (body.drop (4 + num4 body))

/-- Rows out of a body, behind others. -/
def tkRows : Nat → List Nat → List (List Nat) → Option (List (List Nat))
  | 0, _, _ => none
  | f + 1, body, rows => match rowHead body rows.length with
    | .stop => some rows
    | .bad => none
    | .go r b => tkRows f b (rows ++ [r])

def recHead (left : List Nat) : RH := if left.length < 8 then .stop else if 4194304 < num4 left then .bad else if left.length - 8 < num4 left then .stop else if crcO (left.take 4 ++ (left.drop 8).take (num4 left)) ≠ num4 (left.drop 4) then .bad else .go ((left.drop 8).take (num4 left)) (left.drop (8 + num4 left))

/-- Records out of what is left, behind others; and how much is left then. -/
def tkRecs : Nat → List Nat → List (List (List Nat)) → Option (List (List (List Nat)) × Nat)
  | 0, _, _ => none
  | f + 1, left, recs => match recHead left with
    | .stop => some (recs, left.length)
    | .bad => none
    | .go b l => match tkRows (b.length + 1) b [] with
      | none => none
      | some rows => tkRecs f l (recs ++ [rows])

theorem tkRows_step (f : Nat) (body : List Nat) (rows : List (List Nat)) : tkRows (f + 1) body rows = match rowHead body rows.length with
    | .stop => some rows
    | .bad => none
    | .go r b => tkRows f b (rows ++ [r]) := by rw [tkRows]
theorem tkRecs_step (f : Nat) (left : List Nat) (recs : List (List (List Nat))) : tkRecs (f + 1) left recs = match recHead left with
    | .stop => some (recs, left.length)
    | .bad => none
    | .go b l => match tkRows (b.length + 1) b [] with
      | none => none
      | some rows => tkRecs f l (recs ++ [rows]) := by rw [tkRecs]

/-- What a file's bytes hold. -/
def tk (bs : List Nat) : Option (List (List (List Nat)) × Nat) := if bs.take 8 = headB then (tkRecs (bs.length + 1) (bs.drop 8) []).map fun q => (q.1, bs.length - q.2) else none

end Go.Proofs.YtpjinakhgfpafaaDoor

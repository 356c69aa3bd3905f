/- An append that leaves the old slice as it was; a slice literal behind a guard; files as files that come in. -/
import Derived.Test.YtiblnkiecpcdpaaJ14F
import Derived.Great.BuildSlice
import Derived.Lib.SmallJoins
namespace Go.Proofs.Ytiblnkiecpcdpaa
open Go.RowKit
set_option linter.unusedVariables false
set_option linter.unusedSimpArgs false

/-- What an append leaves of the slice that was appended to. -/
theorem append_old {P : Program} (w : World) (base : Nat) (t ty e : TypeId) (i : TypeInfo) (z : Value) (size bytes : Nat) (ht : P.underlying t = some (.slice e)) (hi : P.info? e = some i) (hz : i.zero = some z)
    (hsize : i.size = size) (hby : i.bytes = bytes) (hzs : z.cells.size = size) (hsz : 0 < size) (v : Value) (n : Nat) (xs : List Value) (hown : w.ownsRow base e size v n xs)
    (a : Addr) (m c : Nat) (news : List Value) (hl : news.length = m * size) (hnews : ∀ j u, news[j]? = some u → w.cell? (a.add j) = some u) (h1 : ∀ u ∈ news, u.oneCell' = true)
    (h63 : n + m ≤ maxLen) (hbytes : (n + m) * bytes ≤ 140737488355328) (hbase : base ≤ w.heap.size) :
    ∃ v' w', (Builtin.append_ #[t, t] ty #[v, .slice (some a) m c]).run P w = .ok v' w' ∧ w'.ownsRow base e size v' (n + m) (xs ++ news) ∧ w.grownBy w' v.ownBlock ∧ w'.ownsRow base e size v n xs := by
  obtain ⟨v', w', hr, h2, h3, _, _⟩ := run_append_own_at (P := P) w base t ty e i z size bytes ht hi hz hsize hby hzs hsz v n xs hown a m c news hl hnews h1 h63 hbytes hbase
  refine ⟨v', w', hr, h2, h3, hown.1, ?_⟩
  have hsmall : n + m ≤ 9223372036854775807 := by simp only [maxLen] at h63; omega
  rcases hown.2 with ⟨e1, e2⟩ | ⟨g, cap, cur, rfl, hb, hg, hnc, hcm, hcs, htake⟩
  · exact .inl ⟨e1, e2⟩
  by_cases hroom : n + m ≤ cap
  · have hfit : n * i.size + news.length ≤ cur.size := by rw [hl, hcs, hsize, ← Nat.add_mul]; exact Nat.mul_le_mul_right _ hroom
    have hq := run_append_room (P := P) w t ty e i ht hi g n cap cur hg a m c news (by rw [hsize]; exact hl) hnews h1 hroom hfit
    rw [hq] at hr
    injection hr with _ hw
    subst hw
    refine .inr ⟨g, cap, _, rfl, hb, setRow_heap w g cur _ e _ hg, hnc, hcm, ?_, ?_⟩
    · simp only [List.size_toArray, List.length_append, List.length_take, List.length_drop, Array.length_toList]
      omega
    · have hx : xs.length = n * size := hown.1
      rw [hsize, htake]
      show ((xs ++ news ++ _).take (n * size)) = xs
      rw [List.append_assoc, ← hx]
      exact List.take_left
  · have holds : ∀ j u, xs[j]? = some u → w.cell? ((⟨g, 0, none⟩ : Addr).add j) = some u := hown.cells (g := g) rfl
    have hq := run_append_grow (P := P) w t ty e i z ht hi hz ⟨g, 0, none⟩ n cap xs (by rw [hsize]; exact hown.1) holds a m c news (by rw [hsize]; exact hl) hnews (by omega) (by omega) (growslice_fits (by omega) (by rw [hby]; exact hbytes))
    rw [hq] at hr
    injection hr with _ hw
    subst hw
    exact .inr ⟨g, cap, cur, rfl, hb, (Below.heap_alloc w.drew _ _ (heap_lt hg)).trans hg, hnc, hcm, hcs, htake⟩

theorem wpList_append_old {P : Program} {ops : Array Oper} {rest : List Oper} {o : Oper} {a : Act} {w : World} {Q : Exit → Act → World → Prop} (hgd : o.guard = none) (s x : Operand) (t : TypeId)
    (ho : o.op = .call { callee := .builtin .append, args := #[s, x], argTypes := #[t, t] })
    (base : Nat) (e : TypeId) (i : TypeInfo) (z : Value) (size bytes : Nat) (ht : P.underlying t = some (.slice e)) (hi : P.info? e = some i) (hz : i.zero = some z)
    (hsize : i.size = size) (hby : i.bytes = bytes) (hzs : z.cells.size = size) (hsz : 0 < size)
    (v : Value) (n : Nat) (xs : List Value) (hs : a.eval s = v) (hown : w.ownsRow base e size v n xs)
    (ad : Addr) (m c : Nat) (news : List Value) (hx : a.eval x = .slice (some ad) m c) (hl : news.length = m * size) (hnews : ∀ j u, news[j]? = some u → w.cell? (ad.add j) = some u) (h1 : ∀ u ∈ news, u.oneCell' = true)
    (h63 : n + m ≤ maxLen) (hbytes : (n + m) * bytes ≤ 140737488355328) (hbase : base ≤ w.heap.size)
    (h : ∀ v' w', w'.ownsRow base e size v' (n + m) (xs ++ news) → w.grownBy w' v.ownBlock → w'.ownsRow base e size v n xs → wpList P ops Q rest (a.put o.dst v') w') : wpList P ops Q (o :: rest) a w := by
  refine wpList_plain hgd fun K hK => ?_
  obtain ⟨v', w', hr, h2, h3, h4⟩ := append_old (P := P) w base t o.type e i z size bytes ht hi hz hsize hby hzs hsz v n xs hown ad m c news hl hnews h1 h63 hbytes hbase
  unfold Oper.wp execOp
  simp only [ho, resolve, invoke, builtin, Sem.run_bind, Sem.run_pure, Result.andThen_ok, List.map_toArray, List.map_cons, List.map_nil, hs, hx, hr]
  exact hK _ _ (h v' w' h2 h3 h4)

/-- A slice literal of integers where its guard says that it is wanted. -/
theorem wpList_flatOn {P : Program} {ops : Array Oper} {rest : List Oper} {o : Oper} {a : Act} {w : World} {Q : Exit → Act → World → Prop} (t e : TypeId) (len : Nat) (parts : Array (Nat × Operand)) (ho : o.op = .buildSlice t len parts)
    (hw : Region.wanted o (yielded ops a.tmps) = true) (k : IntKind) (zs : List Int) (N : Nat) (hN : w.heap.size = N)
    (hu : P.underlying t = some (.slice e)) (hsz : (P.info? e).map (·.size) = some 1) (hz : ((P.info? e).bind (·.zero)).isSome = true)
    (hlen : len = zs.length) (hpos : 0 < len) (hsmall : len ≤ 2 ^ 24)
    (hparts : parts.toList = (zs.zipIdx 0).map fun x => (x.2, Operand.const (Value.int k x.1)))
    (h : wpList P ops Q rest (a.put o.dst (.slice (some ⟨N, 0, none⟩) len len)) (w.alloc (.cells (zs.map (Value.int k)).toArray e))) : wpList P ops Q (o :: rest) a w := by
  subst hN
  cases hie : P.info? e with
  | none => simp [hie] at hsz
  | some ie =>
    simp only [hie, Option.map_some, Option.some.injEq, Option.bind_some] at hsz hz
    obtain ⟨z, hzz⟩ := Option.isSome_iff_exists.1 hz
    refine wpList_step fun K hK => ?_
    rw [if_pos hw]
    refine wp_buildSlice t e len parts ho _ ie z hu hie hzz (by rw [hsz]; omega) (by rw [hsz]; omega) ?_ (hK _ _ h)
    rw [parts_eval a parts k zs hparts, hsz]
    exact Great.fill_flat _ _ (fun v hv => by obtain ⟨n, _, rfl⟩ := List.mem_map.1 hv; rfl) (by simp [hlen])

/-- The files that a disk tells, as files that come in. -/
def FilesBy (w : World) (vals : List Value) (fs : List (ByteArray × List Nat)) : Prop := ∀ i, i < fs.length → (fs.getD i (.empty, [])).1.size ≤ 140737488355328 ∧ ByIn w (vals.getD i (.slice none 0 0)) (fs.getD i (.empty, [])).2

theorem files_by {B lo : Nat} {w : World} {S : DS} {v : Value} {vals : List Value} {ns : List ByteArray} (hD : Dk B w 0 S) (hN : ∀ y ∈ S.ps.con, okN y.1) (hp : ns.Perm (S.L.map (·.nm))) (h : FilesAt w lo v vals (filesOf S ns)) : FilesBy w vals (filesOf S ns) := fun i hi => by
  obtain ⟨k1, k2⟩ := h.toR
  have hl : i < vals.length := by rw [k1.1]; exact hi
  have hv : vals[i]? = some (vals.getD i (.slice none 0 0)) := by rw [List.getElem?_eq_getElem hl]; simp [List.getD, List.getElem?_eq_getElem hl]
  have hin : i < ns.length := by unfold filesOf at hi; simpa using hi
  have hx : (filesOf S ns).getD i (.empty, []) = (ns[i], bytesOf S ns[i]) := by unfold filesOf; simp [List.getD, List.getElem?_eq_getElem hin]
  have hm : ns[i] ∈ S.L.map (·.nm) := hp.subset (List.getElem_mem hin)
  obtain ⟨y, hy, hyn⟩ := List.mem_map.1 hm
  have hby := k2 i hi
  rw [hx] at hby ⊢
  obtain ⟨p', l, c', e, q1, q2⟩ := h.cap _ (List.mem_of_getElem? hv)
  rw [e] at hby ⊢
  have hl2 : l = (bytesOf S ns[i]).length := by
    obtain ⟨_, _, e2, _⟩ := by_slice hby
    simp only [Value.slice.injEq] at e2
    exact e2.2.1
  have hb : bytesOf S ns[i] = y.bs := by rw [← hyn, bytes_of hD hy]
  have h47 : l ≤ 140737488355328 := by
    have h1 := con_le _ _ (con_mem hy)
    have h2 := hD.rm
    rw [tot_con] at h2
    rw [hl2, hb]
    have h3 : y.bs.length ≤ Con.tot S.ps.con := h1
    have h4 : Con.tot S.ps.con ≤ S.room := h2.1
    omega
  refine ⟨?_, p', l, c', rfl, h47, q1, q2, hby, hl2, ?_⟩
  · show ns[i].size ≤ _
    rw [← hyn]; exact okN_47 (hN _ (con_mem hy))
  · show ∀ x ∈ bytesOf S ns[i], x < 256
    rw [hb]; exact hD.by_ y hy

theorem FilesBy.below {w w' : World} {vals : List Value} {fs : List (ByteArray × List Nat)} (h : FilesBy w vals fs) (hb : Below w.heap.size w w') : FilesBy w' vals fs := fun i hi => by
  obtain ⟨h1, p', n', c', e, q1, q2, q3, q4, q5, q6⟩ := h i hi
  exact ⟨h1, p', n', c', e, q1, q2, q3, isBy_below q4 hb, q5, q6⟩

theorem FilesBy.more {w : World} {vals : List Value} {fs : List (ByteArray × List Nat)} (h : FilesBy w vals fs) (hl : vals.length = fs.length) {nm : ByteArray} (hz : nm.size ≤ 140737488355328) : FilesBy w (vals ++ [.slice none 0 0]) (fs ++ [(nm, [])]) := fun i hi => by
  rcases Nat.lt_or_ge i fs.length with hi' | hi'
  · have e1 : (vals ++ [Value.slice none 0 0]).getD i (.slice none 0 0) = vals.getD i (.slice none 0 0) := by simp [List.getD, List.getElem?_append_left (show i < vals.length by omega)]
    have e2 : (fs ++ [(nm, [])]).getD i (.empty, []) = fs.getD i (.empty, []) := by simp [List.getD, List.getElem?_append_left hi']
    rw [e1, e2]; exact h i hi'
  · have hi2 : i = fs.length := by simp at hi; omega
    have e1 : (vals ++ [Value.slice none 0 0]).getD i (.slice none 0 0) = .slice none 0 0 := by rw [hi2, ← hl]; simp [List.getD]
    have e2 : (fs ++ [(nm, [])]).getD i (.empty, []) = (nm, []) := by rw [hi2]; simp [List.getD]
    rw [e1, e2]
    exact ⟨hz, none, 0, 0, rfl, by omega, Nat.le_refl _, fun _ => rfl, .inl (.inl ⟨rfl, rfl⟩), rfl, by simp⟩

end Go.Proofs.Ytiblnkiecpcdpaa

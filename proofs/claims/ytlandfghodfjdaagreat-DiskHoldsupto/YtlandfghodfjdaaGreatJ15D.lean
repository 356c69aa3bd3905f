/- What a disk tells of its files: the calls of the law's tells. -/
import Derived.Test.YtlandfghodfjdaaGreatJ15A
import Derived.Test.YtlandfghodfjdaaGreatJ14B
namespace Go.Proofs.YtlandfghodfjdaaGreat
open Go.RowKit
set_option linter.unusedVariables false
set_option linter.unusedSimpArgs false

theorem FilesR.kept {w w' : World} {v : Value} {vals : List Value} {fs : List (ByteArray × List Nat)} (h : FilesR w v vals fs) (hk : ∀ k, v.ownBlock = some k → w'.heap[k]? = w.heap[k]?) : FilesR w' v vals fs := by
  obtain ⟨h1, p, c, rfl, h2⟩ := h
  refine ⟨h1, p, c, rfl, fun i hi => ?_⟩
  obtain ⟨g, o, rfl, k1, k2⟩ := h2 i hi
  have e := hk g rfl
  exact ⟨g, o, rfl, (World.cell?_of_block (w := w) (w' := w') (a := ⟨g, o + i * 2, none⟩) e).trans k1, (World.cell?_of_block (w := w) (w' := w') (a := ⟨g, o + i * 2 + 1, none⟩) e).trans k2⟩

/-- Bytes of the law's own that may be cut. -/
def BSt (w : World) (S : DS) (p : Option Addr) (n c : Nat) (bs : List Nat) : Prop := Cy w p n c bs ∧ ∀ k, (Value.slice p n c).ownBlock = some k → Qo w S k

theorem BSt.fr {w w' : World} {S : DS} {p : Option Addr} {n c : Nat} {bs : List Nat} (h : BSt w S p n c bs) (hf : Fr w (Fp S) w' (Fp S)) : BSt w' S p n c bs :=
  ⟨⟨isBy_keepW h.1.1 fun k hk => ((h.2 k hk).fr hf).2, h.1.2⟩, fun k hk => ((h.2 k hk).fr hf).1⟩

theorem bst_of {w w' : World} {S : DS} {v : Value} {bs : List Nat} {n : Nat} (hn : bs.length = n) (hs : w.heap.size ≤ w'.heap.size) (h : w'.ownsRow w.heap.size 5 1 v n (bytesV bs)) (ha : ∀ k, v.ownBlock = some k → ¬ Fp S k) : ∃ p c, v = .slice p n c ∧ BSt w' S p n c bs := by
  subst hn
  have hO : OB w.heap.size w' bs v w' := ⟨h, Below.refl _ _, hs⟩
  obtain ⟨p, c, rfl, hc⟩ := hO.cy
  exact ⟨p, c, rfl, hc, fun k hk => ⟨(h.lt k hk).2, ha k hk⟩⟩

/-- While the disk tells. -/
structure TeSt (B : Nat) (w wr : World) (S : DS) (v : Value) (ys : List Value) (ns : List ByteArray) (lo : Nat) (vn : Value) : Prop where
  dk : Dk B wr 0 S
  off : S.off = false
  fin : ∀ y ∈ S.ps.con, okN y.1
  fr : Fr w (Fp S) wr (Fp S)
  got : FilesGot wr v S ys ns
  ap : ∀ k, v.ownBlock = some k → Qo wr S k
  row : wr.ownsRow lo 9 1 vn ns.length (ns.map Value.string)
  apn : ∀ k, vn.ownBlock = some k → Qo wr S k

section
variable {B lo : Nat} {w wr : World} {S : DS} {v vn : Value} {ys : List Value} {ns : List ByteArray}

theorem TeSt.to {w2 : World} (h : TeSt B w wr S v ys ns lo vn) (hD : Dk B w2 0 S) (hf : Fr wr (Fp S) w2 (Fp S)) : TeSt B w w2 S v ys ns lo vn := by
  have hg := h.got
  have hrow := hg.2.1.fr (w' := w2) (Q' := Qo w2 S) fun k hk => ⟨(hk.fr hf).2, (hk.fr hf).1⟩
  exact ⟨hD, h.off, h.fin, h.fr.trans hf, ⟨hg.1.kept fun k hk => ((h.ap k hk).fr hf).2, hrow, hrow.toR, hg.2.2.2⟩, fun k hk => ((h.ap k hk).fr hf).1, ownsRow_keep h.row fun k hk => ((h.apn k hk).fr hf).2, fun k hk => ((h.apn k hk).fr hf).1⟩

theorem TeSt.below {w2 : World} (h : TeSt B w wr S v ys ns lo vn) (hb : Below wr.heap.size wr w2) : TeSt B w w2 S v ys ns lo vn := h.to (h.dk.below hb) (Fr.of_below hb)

/-- The file at a place. -/
theorem TeSt.at_ (h : TeSt B w wr S v ys ns lo vn) {i : Nat} (hi : i < ns.length) : ∃ x ∈ S.L, okN x.nm ∧ x.su ≤ x.bs.length ∧ x.bs.length ≤ 268435456 ∧
    (∃ g o c, v = .slice (some ⟨g, o, none⟩) ns.length c ∧ ∃ p k, (∀ w2, TeSt B w w2 S v ys ns lo vn → w2.cell? ⟨g, o + i * 2, none⟩ = some (.string x.nm) ∧ w2.cell? ⟨g, o + i * 2 + 1, none⟩ = some (.slice p x.bs.length k) ∧ IsBy w2 (.slice p x.bs.length k) x.bs)) ∧
    (∃ g c, vn = .slice (some ⟨g, 0, none⟩) ns.length c ∧ ∀ w2, TeSt B w w2 S v ys ns lo vn → w2.cell? ⟨g, i, none⟩ = some (.string x.nm)) := by
  obtain ⟨hF, hG, hR, hp, hi2⟩ := h.got
  have hmem := hp.subset (List.getElem_mem hi)
  obtain ⟨x, hx, e⟩ := List.mem_map.1 hmem
  have hfin := h.dk.fine h.fin
  have hxc : x.con ∈ S.ps.con := con_mem hx
  have hfl : (filesOf S ns).length = ns.length := filesOf_len S ns
  have hfx : (filesOf S ns).getD i (.empty, []) = (x.nm, x.bs) := by
    unfold filesOf
    rw [List.getD_eq_getElem?_getD, List.getElem?_map, List.getElem?_eq_getElem hi]
    show (ns[i], bytesOf S ns[i]) = _
    rw [← e, bytes_of h.dk hx]
  refine ⟨x, hx, h.fin _ hxc, hfin.2.1 _ hxc, h.dk.len_le hx, ?_, ?_⟩
  · obtain ⟨_, pv, cv, rfl, hat⟩ := hF
    obtain ⟨g, o, rfl, _⟩ := hat i (by rw [hfl]; exact hi)
    have hby := hR i (by rw [hfl]; exact hi)
    rw [hfx] at hby
    obtain ⟨pu, ku, hu, _⟩ := by_slice hby
    refine ⟨g, o, cv, by rw [hfl], pu, ku, fun w2 h2 => ?_⟩
    obtain ⟨hF2, _, hR2, _⟩ := h2.got
    obtain ⟨_, p2, c2, e2, hat2⟩ := hF2
    obtain ⟨g2, o2, e3, k1, k2⟩ := hat2 i (by rw [hfl]; exact hi)
    simp only [Value.slice.injEq] at e2
    have e4 := e2.1.trans e3
    simp only [Option.some.injEq, Addr.mk.injEq, and_true] at e4
    obtain ⟨rfl, rfl⟩ := e4
    have hb2 := hR2 i (by rw [hfl]; exact hi)
    rw [hfx] at k1 hb2
    rw [hu] at k2 hb2
    exact ⟨k1, k2, hb2⟩
  · obtain ⟨g, c, cur, rfl, _⟩ := row_at h.row (by omega)
    refine ⟨g, c, rfl, fun w2 h2 => ?_⟩
    obtain ⟨g2, c2, cur2, e2, _, _, hat⟩ := row_at h2.row (by omega)
    simp only [Value.slice.injEq, Option.some.injEq, Addr.mk.injEq, and_true] at e2
    obtain ⟨rfl, -, -⟩ := e2
    exact hat i _ hi (by rw [List.getElem?_map, List.getElem?_eq_getElem hi, ← e]; rfl)

theorem TeSt.read (h : TeSt B w wr S v ys ns lo vn) {x : Fi} (hx : x ∈ S.L) (hok : okN x.nm) :
    Calls Tryz.prog 27 #[.pointer (some ⟨S.d, 0, none⟩), .string x.nm] wr fun e w2 => ∃ p c, e = .returned (.tuple #[.slice p x.bs.length c, .int .i64 0]) ∧ TeSt B w w2 S v ys ns lo vn ∧ BSt w2 S p x.bs.length c x.bs :=
  (read_any wr h.dk h.off x hx hok).mono (by
    rintro e w2 ⟨v2, rfl, ⟨h1, h2⟩, h3, h4⟩
    obtain ⟨p, c, rfl, hb⟩ := bst_of rfl h2.size h3 h4
    exact ⟨p, c, rfl, h.to h1 h2, hb⟩)

theorem TeSt.size (h : TeSt B w wr S v ys ns lo vn) {x : Fi} (hx : x ∈ S.L) (hok : okN x.nm) {pb : Option Addr} {nb cb : Nat} {bs : List Nat} (hb : BSt wr S pb nb cb bs) :
    Calls Tryz.prog 40 #[.pointer (some ⟨S.d, 0, none⟩), .string x.nm] wr fun e w2 => e = .returned (.tuple #[.int .i64 (x.bs.length : Int), .int .i64 0]) ∧ TeSt B w w2 S v ys ns lo vn ∧ BSt w2 S pb nb cb bs :=
  (size_any wr h.dk h.off x hx hok).mono (by
    rintro e w2 ⟨rfl, h1, h2⟩
    exact ⟨rfl, h.to h1 h2, hb.fr h2⟩)

theorem TeSt.readAt (h : TeSt B w wr S v ys ns lo vn) {x : Fi} (hx : x ∈ S.L) (hok : okN x.nm) {k m : Nat} (hkm : k + m = x.bs.length) {pb : Option Addr} {nb cb : Nat} {bs : List Nat} (hb : BSt wr S pb nb cb bs) :
    Calls Tryz.prog 41 #[.pointer (some ⟨S.d, 0, none⟩), .string x.nm, .int .i64 (k : Int), .int .i64 (m : Int)] wr fun e w2 => ∃ p c, e = .returned (.tuple #[.slice p m c, .int .i64 0]) ∧ TeSt B w w2 S v ys ns lo vn ∧ BSt w2 S pb nb cb bs ∧ BSt w2 S p m c (x.bs.drop k) :=
  (readAt_any wr h.dk h.off x hx hok k m (by omega)).mono (by
    rintro e w2 ⟨v2, rfl, ⟨h1, h2⟩, h3, h4⟩
    have e1 : (x.bs.drop k).take m = x.bs.drop k := List.take_of_length_le (by rw [List.length_drop]; omega)
    rw [e1] at h3
    obtain ⟨p, c, rfl, hc⟩ := bst_of (by rw [List.length_drop]; omega) h2.size h3 h4
    exact ⟨p, c, rfl, h.to h1 h2, hb.fr h2, hc⟩)

theorem TeSt.sure (h : TeSt B w wr S v ys ns lo vn) {x : Fi} (hx : x ∈ S.L) (hok : okN x.nm) {pb pc : Option Addr} {nb cb nc cc : Nat} {bs cs : List Nat} (hb : BSt wr S pb nb cb bs) (hc : BSt wr S pc nc cc cs) :
    Calls Tryz.prog 42 #[.pointer (some ⟨S.d, 0, none⟩), .string x.nm] wr fun e w2 => e = .returned (.tuple #[.int .i64 (x.su : Int), .int .i64 0]) ∧ TeSt B w w2 S v ys ns lo vn ∧ BSt w2 S pb nb cb bs ∧ BSt w2 S pc nc cc cs :=
  (sure_any wr h.dk h.off x hx hok).mono (by
    rintro e w2 ⟨rfl, h1, h2⟩
    exact ⟨rfl, h.to h1 h2, hb.fr h2, hc.fr h2⟩)
end

end Go.Proofs.YtlandfghodfjdaaGreat

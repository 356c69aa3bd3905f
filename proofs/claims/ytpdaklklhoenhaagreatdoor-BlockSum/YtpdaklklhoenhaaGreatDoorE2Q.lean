/- What comes in: rows of bytes; both tables, tied. -/
import Derived.Test.YtpdaklklhoenhaaGreatDoorB1Rg
import Derived.Test.YtpdaklklhoenhaaGreatDoorD1W
import Derived.OwnWalk
import Derived.Test.YtpdaklklhoenhaaGreatDoorE2M
import Derived.Deep.CutBlock
import Derived.Deep.DeepCutAuto
import Derived.Deep.CutRange
import Derived.BigQuiet
import Derived.Great.BuildSlice
import Derived.Lib.SmallJoins
import Derived.Test.YtpdaklklhoenhaaGreatDoorCards
import Derived.Test.YtpdaklklhoenhaaGreatDoorTie
import Derived.LaidMore
import Derived.Lay
import Derived.SevenTiedAt
import Derived.ProofKit
import Derived.OpenShut
import Derived.Deep.Slices
import Derived.Deep.MidRow
import Derived.SizedLaws
/- Bytes of one's own; the law's own Copy. -/
namespace Go.Proofs.YtpdaklklhoenhaaGreatDoor
open Go.RowKit
open M
set_option linter.unusedVariables false
set_option linter.unusedSimpArgs false

/-- Bytes of one's own, from block B on. -/
structure OB (B : Nat) (w0 : World) (bs : List Nat) (v : Value) (wr : World) : Prop where
  own : wr.ownsRow B 5 1 v bs.length (bytesV bs)
  bel : Below B w0 wr
  le : B ≤ w0.heap.size

theorem OB.nil (w : World) : OB w.heap.size w [] (.slice none 0 0) w := ⟨World.ownsRow_nil _ _ _ _, Below.refl _ _, Nat.le_refl _⟩

theorem OB.below {B : Nat} {w0 wr w2 : World} {bs : List Nat} {v : Value} (h : OB B w0 bs v wr) (hB : Below wr.heap.size wr w2) : OB B w0 bs v w2 :=
  ⟨ownsRow_keep h.own fun g hg => hB.block g (h.own.lt g hg).2, h.bel.trans (hB.mono (Nat.le_trans h.le h.bel.size)), h.le⟩

theorem OB.by_ {B : Nat} {w0 wr : World} {bs : List Nat} {v : Value} (h : OB B w0 bs v wr) : IsBy wr v bs := by
  rcases h.own.2 with ⟨h1, h2⟩ | ⟨g, cap, cur, h1, hb, hg, hc, hm, hs, ht⟩
  · exact .inl (.inl ⟨h1, List.length_eq_zero_iff.1 h2⟩)
  · refine .inl (.inr ⟨g, 0, cap, h1, fun i hi => ?_⟩)
    have e : (bytesV bs)[i]? = some (.int .u8 ((bs.getD i 0 : Nat) : Int)) := by simp [bytesV, List.getD, hi]
    rw [Nat.zero_add, cell_of_row wr g i cur _ (0, 0) hg, ← e, ← ht, List.getElem?_take, if_pos (by omega)]
    simp

theorem bytesV_app (a b : List Nat) : bytesV (a ++ b) = bytesV a ++ bytesV b := by simp [bytesV]

theorem OB.more {B : Nat} {w0 wr w4 : World} {bs cs : List Nat} {v v2 : Value} (h : OB B w0 bs v wr) (ho : w4.ownsRow B 5 1 v2 (bs.length + cs.length) (bytesV bs ++ bytesV cs)) (hg : wr.grownBy w4 v.ownBlock) : OB B w0 (bs ++ cs) v2 w4 :=
  ⟨by rw [List.length_append, bytesV_app]; exact ho, h.bel.trans (grown_below hg (fun g hg => (h.own.lt g hg).1) (Nat.le_trans h.le h.bel.size)), h.le⟩

/-- How bytes that are appended lie. -/
theorem by_news {w : World} {v : Value} {bs : List Nat} (h : IsBy w v bs) : (v = .slice none 0 0 ∧ bs = []) ∨ ∃ ad cap, v = .slice (some ad) bs.length cap ∧ ∀ j u, (bytesV bs)[j]? = some u → w.cell? (ad.add j) = some u := by
  rcases h with h | ⟨ad, cap, rfl, rfl⟩
  · have h' := h
    rcases h with ⟨rfl, rfl⟩ | ⟨g, o, cap, rfl, hc⟩
    · exact .inl ⟨rfl, rfl⟩
    · exact .inr ⟨_, _, rfl, h'.news.2⟩
  · exact .inr ⟨ad, cap, rfl, fun j u hj => by simp [bytesV] at hj⟩

set_option maxRecDepth 100000 in
theorem copy_any (v : Value) (bs : List Nat) (w : World) (h : IsBy w v bs) (hl : bs.length ≤ 1000000000) :
    Calls Tryz.prog 11 #[v] w fun e w' => ∃ v2, e = .returned v2 ∧ OB w.heap.size w bs v2 w' := by
  obtain ⟨i5, hi5⟩ := info5
  have Hi := hide hi5
  clear hi5
  have HO : Hid (OB w.heap.size w [] (.slice none 0 0) w) := OB.nil w
  have HO1 : Hid (w.ownsRow w.heap.size 5 1 (.slice none 0 0) 0 []) := World.ownsRow_nil _ _ _ _
  rcases by_news h with ⟨rfl, rfl⟩ | ⟨ad, cap, rfl, hnews⟩
  · clear h
    go_enter Tryz.func11, Tryz.ntmps11
    go_wp2_with (at_builtin; refine wpList_append_own_none rfl _ _ _ rfl w.heap.size 5 i5 1 Tryz.underlying23 Hi.out.1 (.slice none 0 0) 0 [] rfl HO1.out rfl ?c6)
    go_ret
    exact ⟨_, rfl, HO.out⟩
  · have HN := hide hnews
    clear h hnews
    obtain ⟨n, hn⟩ : ∃ n, bs.length = n := ⟨_, rfl⟩
    rw [hn] at hl ⊢
    have Hn := hide hn
    clear hn
    go_enter Tryz.func11, Tryz.ntmps11
    go_wp2_with (at_builtin; refine wpList_append_own _ rfl _ _ _ rfl w.heap.size 5 i5 (.int .u8 0) 1 1 Tryz.underlying23 Hi.out.1 Hi.out.2.1 Hi.out.2.2.1 Hi.out.2.2.2 rfl (by decide) (.slice none 0 0) 0 [] rfl HO1.out ad n cap (bytesV bs) rfl ?f2 ?f3 (bytesV_cell bs) ?f4 ?f5 ?f7 ?f6)
    case f2 => rw [Nat.mul_one, ← Hn.out]; simp
    case f3 => exact HN.out
    case f4 => unfold maxLen; omega
    case f5 => omega
    case f7 => omega
    case f6 =>
      intro v2 w2 ho2 hg2 _
      have HF : Hid (OB w.heap.size w bs v2 w2) := by
        have h2 := HO.out.more (cs := bs) (v2 := v2) (w4 := w2) (by simpa [Hn.out, bytesV] using ho2) hg2
        rw [List.nil_append] at h2
        exact h2
      clear ho2 hg2
      go_wp2_with fail
      go_ret
      exact ⟨_, rfl, HF.out⟩

end Go.Proofs.YtpdaklklhoenhaaGreatDoor

/- BlockSum: the walk. -/
namespace Go.Proofs.YtpdaklklhoenhaaGreatDoor
open Go.RowKit
open M
set_option linter.unusedVariables false
set_option linter.unusedSimpArgs false

/-- Rows of bytes that a machine can hold. -/
def BRows (w : World) (p : Option Addr) (n : Nat) : Prop := 0 < n → ∃ b o, p = some ⟨b, o, none⟩ ∧ ∀ i, i < n → ∃ v, w.cell? ⟨b, o + i, none⟩ = some v ∧ ∃ pe ne ce bs, v = .slice pe ne ce ∧ ne ≤ 140737488355328 ∧ IsBy w v bs ∧ bs.length = ne ∧ ∀ x ∈ bs, x < 256

/-- A slice literal of integers where its guard says that it is wanted. -/
theorem wpList_flatOn {P : Program} {ops : Array Oper} {rest : List Oper} {o : Oper} {a : Act} {w : World} {Q : Exit → Act → World → Prop} (t e : TypeId) (len : Nat) (parts : Array (Nat × Operand)) (ho : o.op = .buildSlice t len parts)
    (hw : Region.wanted o (yielded ops a.tmps) = true) (k : IntKind) (zs : List Int) (N : Nat) (hN : w.heap.size = N)
    (hu : P.underlying t = some (.slice e)) (hsz : (P.info? e).map (·.size) = some 1) (hz : ((P.info? e).bind (·.zero)).isSome = true)
    (hlen : len = zs.length) (hpos : 0 < len) (hsmall : len ≤ 2 ^ 24)
    (hparts : parts.toList = (zs.zipIdx 0).map fun x => (x.2, Operand.const (Value.int k x.1)))
    (h : wpList P ops Q rest (a.put o.dst (.slice (some ⟨N, 0, none⟩) len len)) (w.alloc (.cells (zs.map (Value.int k)).toArray e))) : wpList P ops Q (o :: rest) a w := by
  subst hN
  cases hie : P.info? e with
  | none => simp [hie] at hsz
  | some ie =>
    simp only [hie, Option.map_some, Option.some.injEq, Option.bind_some] at hsz hz
    obtain ⟨z, hzz⟩ := Option.isSome_iff_exists.1 hz
    refine wpList_step fun K hK => ?_
    rw [if_pos hw]
    refine wp_buildSlice t e len parts ho _ ie z hu hie hzz (by rw [hsz]; omega) (by rw [hsz]; omega) ?_ (hK _ _ h)
    rw [parts_eval a parts k zs hparts, hsz]
    exact Great.fill_flat _ _ (fun v hv => by obtain ⟨n, _, rfl⟩ := List.mem_map.1 hv; rfl) (by simp [hlen])

theorem crc_digits : crcO [49, 50, 51, 52, 53, 54, 55, 56, 57] = 3421780262 := by decide +kernel
theorem crc_nil : crcO [] = 0 := by decide +kernel

set_option maxRecDepth 100000 in
set_option maxHeartbeats 8000000 in
theorem blockSum_any (p : Option Addr) (n cap : Nat) (w : World) (hn : n ≤ 140737488355328) (h : BRows w p n) (hT : Tab64 w) (hC : TabC w) :
    Calls Tryz.prog 3 #[.slice p n cap] w fun e w' => e = .returned (.bool true) ∧ Below w.heap.size w w' := by
  have H := hide h
  have HT := hide hT
  have HC := hide hC
  clear h hT hC
  obtain ⟨i5, hi5⟩ := info5
  have Hi := hide hi5
  clear hi5
  go_enter Tryz.func3, Tryz.ntmps3
  go_upto_block 0 with fail
  go_cut [3] from 4 (fun t3 wc => ∃ v : Value, t3 = v ∧ Hid (∃ bs : List Nat, bs.length ≤ 200000 ∧ (∀ x ∈ bs, x < 256) ∧ OB w.heap.size w bs v wc))
  case first =>
    as_aux_lemma =>
      go_wp2_with fail
      go_loopw [3, 4] (fun s3 t4 wr => ∃ (v : Value) (L k : Nat) (bs : List Nat) (pl : Option Addr) (cl : Nat), s3 = .slice pl L cl ∧ v = .slice pl L cl ∧ t4 = .int .i64 (k : Int) ∧ Hid (k ≤ n ∧ L ≤ 200000 ∧ bs.length = L ∧ (∀ x ∈ bs, x < 256) ∧ OB w.heap.size w bs v wr)) (fun _ t4 _ => n - (intOf t4).toNat)
      case atStart => exact ⟨_, 0, 0, [], none, 0, rfl, rfl, rfl, Nat.zero_le _, by omega, rfl, by simp, OB.nil w⟩
      case round =>
        obtain ⟨v, L, k, bs, pl, cl, rfl, hv, rfl, hI⟩ := hrel
        subst hv
        have hL2 : L ≤ 200000 := hI.out.2.1
        by_cases hlt : k < n
        · obtain ⟨b, o, rfl, hc⟩ := H.out (by omega)
          obtain ⟨u, hu, pe, ne, ce, cs, rfl, hne, hby, hcl, hc256⟩ := hc k hlt
          have c1 : wr.cell? ⟨b, o + k, none⟩ = some (.slice pe ne ce) := by rw [hI.out.2.2.2.2.bel.cell (p := ⟨b, o + k, none⟩) (block_lt_of_cell hu)]; exact hu
          by_cases hsum : L + ne < 200000
          · have HBYW : Hid (∀ w1, Below w.heap.size w w1 → IsBy w1 (.slice pe ne ce) cs) := fun w1 hB => isBy_below hby hB
            have HCW : Hid (∀ w1, Below w.heap.size w w1 → w1.cell? ⟨b, o + k, none⟩ = some (.slice pe ne ce)) := fun w1 hB => by rw [hB.cell (p := ⟨b, o + k, none⟩) (block_lt_of_cell hu)]; exact hu
            have HB0 : Hid (Below w.heap.size w wr) := hI.out.2.2.2.2.bel
            have HLD := hide (lend_any (.slice pe ne ce) cs wr (HBYW.out wr HB0.out) (by rw [hcl]; omega))
            rw [hcl] at HLD
            have HCS : Hid (cs.length = ne ∧ ∀ x ∈ cs, x < 256) := ⟨hcl, hc256⟩
            have hne2 : ne < 200000 := by omega
            have hs1 : (L : Int) + (ne : Int) < 200000 := by omega
            have HSUM := hide hsum
            clear hc hu hby hcl hc256 hne hsum
            go_wp2_with fail
            refine HLD.out.mono ?_
            rintro e w2 ⟨g2, cp2, rfl, hlent, B2⟩
            have HB2 : Hid (Below w.heap.size w w2) := HB0.out.trans (B2.mono HB0.out.size)
            have HOB2 : Hid (OB w.heap.size w bs (.slice pl L cl) w2) := hI.out.2.2.2.2.below B2
            have HLE := hide hlent
            have c2 := HCW.out w2 HB2.out
            have HS1 : Hid (∀ N, Calls Tryz.prog 8 #[.slice (some ⟨g2, 0, none⟩) ne cp2] (w2.drewN N) fun e w' => e = .returned (.int .u32 (crcO cs : Nat)) ∧ w' = w2.drewN N) := fun N => by
              have hb := (HLE.out.below (below_drewN (Below.refl _ _) N)).bytes
              have := bsum_any (.slice (some ⟨g2, 0, none⟩) cs.length cp2) cs (w2.drewN N) (.inl hb) HCS.out.2 (by rw [HCS.out.1]; omega) ((HC.out.below HB2.out).below (below_drewN (Below.refl _ _) N))
              rw [HCS.out.1] at this; exact this
            have HS2 : Hid (∀ N, Calls Tryz.prog 9 #[.slice pe ne ce] (w2.drewN N) fun e w' => e = .returned (.int .u32 (crcO cs : Nat)) ∧ w' = w2.drewN N) := fun N =>
              (rsum_any (.slice pe ne ce) cs (w2.drewN N) (HBYW.out _ (below_drewN HB2.out N)) HCS.out.2 (by rw [HCS.out.1]; omega))
            have HS3 := hide (fun N => intact_any wr.heap.size g2 cp2 ne (.slice pe ne ce) cs (w2.drewN N) HCS.out.1.symm (by omega) (HLE.out.below (below_drewN (Below.refl _ _) N)) (HBYW.out _ (below_drewN HB2.out N)))
            generalize crcO cs = sm at HS1 HS2
            clear hlent B2 HLD c1
            go_upto_region 6 with fail
            go_quiet (first | (go_at_call 8; exact Calls.quiet_of_same (HS1.out _)) | (go_at_call 9; exact Calls.quiet_of_same (HS2.out _)) | (go_at_call 10; exact Calls.quiet_of (HS3.out _)))
            clear HS1 HS2 HS3 c2
            have HB3 : Hid (Below w.heap.size w (w2.drewN nq)) := below_drewN HB2.out nq
            have HOB3 : Hid (OB w.heap.size w bs (.slice pl L cl) (w2.drewN nq)) := HOB2.out.below (below_drewN (Below.refl _ _) nq)
            have c3 := HCW.out _ HB3.out
            have hby3 := HBYW.out _ HB3.out
            obtain ⟨w3, hw3⟩ : ∃ w3, w2.drewN nq = w3 := ⟨_, rfl⟩
            rw [hw3] at HB3 HOB3 c3 hby3 ⊢
            have HBL : Hid (bs.length = L ∧ ∀ x ∈ bs, x < 256) := ⟨hI.out.2.2.1, hI.out.2.2.2.1⟩
            have HOW : Hid (w3.ownsRow w.heap.size 5 1 (.slice pl L cl) L (bytesV bs)) := by have := HOB3.out.own; rw [HBL.out.1] at this; exact this
            clear hw3 HBYW HCW HB2 HOB2 HLE HB0
            rcases by_news hby3 with ⟨hv, hcs⟩ | ⟨ad, cap2, hv, hnews⟩
            · simp only [Value.slice.injEq] at hv
              obtain ⟨rfl, rfl, rfl⟩ := hv
              clear hby3
              go_wp2_with (at_builtin; refine wpList_append_own_none rfl _ _ _ rfl w.heap.size 5 i5 1 Tryz.underlying23 Hi.out.1 (.slice pl L cl) L (bytesV bs) rfl HOW.out rfl ?d6)
              go_roundw
              case rel => exact ⟨_, L, k + 1, bs, pl, cl, rfl, rfl, by simp, hlt, hL2, HBL.out.1, HBL.out.2, HOB3.out⟩
              case measure => simp [intOf]; omega
            · simp only [Value.slice.injEq] at hv
              obtain ⟨rfl, hlen, rfl⟩ := hv
              have HNW := hide hnews
              clear hby3 hnews hlen
              go_wp2_with (at_builtin; refine wpList_append_own _ rfl _ _ _ rfl w.heap.size 5 i5 (.int .u8 0) 1 1 Tryz.underlying23 Hi.out.1 Hi.out.2.1 Hi.out.2.2.1 Hi.out.2.2.2 rfl (by decide) (.slice pl L cl) L (bytesV bs) rfl HOW.out ad ne ce (bytesV cs) rfl ?c2 ?c3 (bytesV_cell cs) ?c4 ?c5 ?c7 ?c6)
              case c2 => rw [Nat.mul_one, ← HCS.out.1]; simp
              case c3 => exact HNW.out
              case c4 => unfold maxLen; omega
              case c5 => omega
              case c7 => exact HB3.out.size
              case c6 =>
                intro v2 w4 ho4 hg4 _
                have HF : Hid (OB w.heap.size w (bs ++ cs) v2 w4) := HOB3.out.more (by rw [HBL.out.1, HCS.out.1]; exact ho4) hg4
                have HFL : Hid ((bs ++ cs).length = L + ne) := by show _ = _; rw [List.length_append, HBL.out.1, HCS.out.1]
                obtain ⟨p4, c4, hv4⟩ : ∃ p4 c4, v2 = .slice p4 (L + ne) c4 := by
                  obtain ⟨p4, c4, h4, _⟩ := by_slice HF.out.by_
                  exact ⟨p4, c4, by rw [h4, HFL.out]⟩
                subst hv4
                clear ho4 hg4 HNW HOW HOB3 c3
                go_wp2_with fail
                go_roundw
                case rel => exact ⟨_, L + ne, k + 1, bs ++ cs, p4, c4, rfl, rfl, by simp, hlt, by have := HSUM.out; omega, HFL.out, fun x hx => by rcases List.mem_append.1 hx with h | h; exact HBL.out.2 x h; exact HCS.out.2 x h, HF.out⟩
                case measure => simp [intOf]; omega
          · have hs1 : ¬ (L : Int) + (ne : Int) < 200000 := by omega
            have HFI : Hid (∃ bs : List Nat, bs.length ≤ 200000 ∧ (∀ x ∈ bs, x < 256) ∧ OB w.heap.size w bs (.slice pl L cl) wr) := ⟨bs, by rw [hI.out.2.2.1]; exact hL2, hI.out.2.2.2⟩
            clear hc hu hby hcl hc256
            go_wp2_with fail
            go_meet
            case rel => exact ⟨_, rfl, HFI.out⟩
        · have HFI : Hid (∃ bs : List Nat, bs.length ≤ 200000 ∧ (∀ x ∈ bs, x < 256) ∧ OB w.heap.size w bs (.slice pl L cl) wr) := ⟨bs, by rw [hI.out.2.2.1]; exact hL2, hI.out.2.2.2⟩
          go_wp2_with fail
          go_meet
          case rel => exact ⟨_, rfl, HFI.out⟩
  case rest =>
    obtain ⟨v, rfl, HR⟩ := hcut
    as_aux_lemma =>
      obtain ⟨bs, hbl, hb256, hOB⟩ := HR.out
      obtain ⟨pl, cl, hv, -⟩ := by_slice hOB.by_
      subst hv
      have HB1 := hide hOB.bel
      have HBY := hide (fun (w1 : World) (hB : Below wc.heap.size wc w1) => isBy_below hOB.by_ hB)
      have HCP := hide (copy_any _ bs wc hOB.by_ (by omega))
      have HBB := hide (And.intro hbl hb256)
      obtain ⟨L, hL⟩ : ∃ L, bs.length = L := ⟨_, rfl⟩
      rw [hL] at HBY HCP ⊢
      clear HR hbl hb256 hOB hL
      go_wp2_with fail
      refine HCP.out.mono ?_
      rintro e w2 ⟨v2, rfl, hO2⟩
      have HB2 : Hid (Below w.heap.size w w2) := HB1.out.trans (hO2.bel.mono HB1.out.size)
      have HY2 := hide hO2.by_
      have HBY2 := hide (HBY.out w2 hO2.bel)
      obtain ⟨p2, c2, hv2, -⟩ := by_slice hO2.by_
      subst hv2
      clear hO2 HCP HBY
      go_wp2_with fail
      refine (bsum_any _ bs w2 HY2.out HBB.out.2 (by have := HBB.out.1; omega) (HC.out.below HB2.out)).mono ?_
      rintro e w3 ⟨rfl, hw3⟩
      have hw3 := hw3.symm
      subst hw3
      go_wp2_with fail
      refine (rsum_any _ bs w2 HBY2.out HBB.out.2 (by have := HBB.out.1; omega)).mono ?_
      rintro e w3 ⟨rfl, hw3⟩
      have hw3 := hw3.symm
      subst hw3
      generalize crcO bs = sm at *
      clear HY2 HBY2 HBB
      obtain ⟨q, hq⟩ : ∃ q, w2.heap.size = q := ⟨_, rfl⟩
      obtain ⟨W4, hW4⟩ : ∃ W4, w2.alloc (.cells #[.int .u8 49, .int .u8 50, .int .u8 51, .int .u8 52, .int .u8 53, .int .u8 54, .int .u8 55, .int .u8 56, .int .u8 57] 5 (9, 10)) = W4 := ⟨_, rfl⟩
      have hcv := Go.Joins.run_convert_bytes_const_at (P := Tryz.prog) w2 23 5 #[.int .u8 49, .int .u8 50, .int .u8 51, .int .u8 52, .int .u8 53, .int .u8 54, .int .u8 55, .int .u8 56, .int .u8 57] 9 9 q hq.symm Tryz.underlying23 (by kernel_rfl)
      have HW4 : Hid (IsBy W4 (.slice (some ⟨q, 0, none⟩) 9 9) [49, 50, 51, 52, 53, 54, 55, 56, 57] ∧ Below w.heap.size w W4) := by
        have hn : W4.heap[q]? = some (.cells #[.int .u8 49, .int .u8 50, .int .u8 51, .int .u8 52, .int .u8 53, .int .u8 54, .int .u8 55, .int .u8 56, .int .u8 57] 5 (9, 10)) := by rw [← hW4, ← hq]; exact heap_alloc_new _ _
        refine ⟨.inl (.inr ⟨q, 0, 9, rfl, fun i hi => ?_⟩), by rw [← hW4]; exact HB2.out.alloc HB2.out.size _⟩
        have hi9 : i < 9 := hi
        rw [Nat.zero_add, cell_of_row _ _ _ _ _ _ hn]
        obtain rfl | rfl | rfl | rfl | rfl | rfl | rfl | rfl | rfl : i = 0 ∨ i = 1 ∨ i = 2 ∨ i = 3 ∨ i = 4 ∨ i = 5 ∨ i = 6 ∨ i = 7 ∨ i = 8 := by omega
        all_goals rfl
      have e9 : (Array.size (α := Value) #[.int .u8 49, .int .u8 50, .int .u8 51, .int .u8 52, .int .u8 53, .int .u8 54, .int .u8 55, .int .u8 56, .int .u8 57]) = 9 := rfl
      rw [e9] at hcv
      clear e9
      go_wp2_with (first | (refine wpList_flatOn 23 5 9 _ rfl (by rfl) .u8 [49, 50, 51, 52, 53, 54, 55, 56, 57] q hq Tryz.underlying23 (by kernel_rfl) (by kernel_rfl) rfl (by decide) (by decide) rfl ?_) | (simp only [hcv]))
      (try rw [hW4])
      clear hW4 hcv hq
      refine (bsum_any _ [49, 50, 51, 52, 53, 54, 55, 56, 57] W4 HW4.out.1 (by decide) (by decide) (HC.out.below HW4.out.2)).mono ?_
      rintro e w5 ⟨rfl, hw5⟩
      have hw5 := hw5.symm
      subst hw5
      rw [crc_digits]
      go_wp2_with fail
      refine (bsum_any _ [] W4 (.inl (.inl ⟨rfl, rfl⟩)) (by simp) (by simp) (HC.out.below HW4.out.2)).mono ?_
      rintro e w5 ⟨rfl, hw5⟩
      have hw5 := hw5.symm
      subst hw5
      rw [crc_nil]
      go_wp2_with fail
      refine (wakes9_any W4 (HT.out.below HW4.out.2) (HC.out.below HW4.out.2)).mono ?_
      rintro e w6 ⟨rfl, B6⟩
      have HF : Hid (Below w.heap.size w w6) := HW4.out.2.trans (B6.mono HW4.out.2.size)
      clear B6 HW4
      go_wp2_with fail
      go_ret
      exact ⟨rfl, HF.out⟩

end Go.Proofs.YtpdaklklhoenhaaGreatDoor

namespace Go.Proofs.YtpdaklklhoenhaaGreatDoor
open Go.ChangeShapes Go.WideShapes Go.Deep Go.Joins
open Go.RowKit (Below)
open M
set_option linter.unusedVariables false
set_option linter.unusedSimpArgs false

/-- A slice of bytes. -/
def IsB (w : World) (v : Value) : Prop := ∃ p n cap bs, v = .slice p n cap ∧ (n ≤ 9223372036854775807 ∧ n ≤ cap) ∧ IsBy w (.slice p n cap) bs ∧ bs.length = n ∧ ∀ x ∈ bs, x < 256
/-- A slice of bytes that a machine can hold. -/
def IsBs (w : World) (v : Value) : Prop := ∃ p n cap bs, v = .slice p n cap ∧ n ≤ 140737488355328 ∧ IsBy w (.slice p n cap) bs ∧ bs.length = n ∧ ∀ x ∈ bs, x < 256

/-- A slice of things that are each S. -/
def RowsOf (S : World → Value → Prop) (w : World) (a : Option Addr) (n : Nat) : Prop :=
  n ≤ 9223372036854775807 ∧ (0 < n → ∃ b o, a = some ⟨b, o, none⟩ ∧ ∀ i, i < n → ∃ v, w.cell? ⟨b, o + i, none⟩ = some v ∧ S w v)

theorem cells_one {w : World} {base : Nat} {a : Addr} {cs : List Value} (h : w.cells? base a 1 = some cs) : ∃ v, cs = [v] ∧ w.cell? a = some v := by
  unfold World.cells? at h
  split at h
  · have e : List.range 1 = [0] := rfl
    rw [e] at h
    simp only [List.mapM_cons, List.mapM_nil, Option.bind_eq_bind, Option.bind_eq_some_iff, Option.pure_def, Option.some.injEq] at h
    obtain ⟨a0, h0, l0, rfl, rfl⟩ := h
    exact ⟨a0, rfl, by simpa [Addr.add] using h0⟩
  · cases h

/-- A machine can hold it. -/
def Sz {H : Type} (ty : TypeId) (d : DataW H) : Prop := ∀ n ∈ d.weights Tryz.prog ty, n ≤ reachBytes

theorem weightsAll_in {H : Type} {P : Program} {e : TypeId} : ∀ {l : List (DataW H)} {d : DataW H}, d ∈ l → ∀ n ∈ d.weights P e, n ∈ DataW.weightsAll P e l
  | _ :: l, d, h, n, hn => by
    rcases List.mem_cons.1 h with rfl | h
    · simp only [DataW.weightsAll, List.mem_append]; exact Or.inl hn
    · simp only [DataW.weightsAll, List.mem_append]; exact Or.inr (weightsAll_in h n hn)

section
variable {H : Type} {enc : TypeId × Value → H} {w : World} {base : Nat} {spare : Nat → Bool} {held : Bool}

theorem open_rowsOf {S : World → Value → Prop} {ty el : TypeId} (hu : Tryz.prog.underlying ty = some (.slice el)) (h1 : Tryz.prog.cellsOf el = 1) (hS : ∀ {m : Nat} {u : Value} {y : DataW H × List MemPlace}, DataW.trod enc Tryz.prog w base spare held m el [u] = some y → S w u)
    {fuel : Nat} {v : Value} {y : DataW H × List MemPlace} (h : DataW.trod enc Tryz.prog w base spare held fuel ty [v] = some y) : ∃ a len cap, v = .slice a len cap ∧ len ≤ cap ∧ RowsOf S w a len := by
  rcases open_slice hu h with ⟨h0, _⟩ | ⟨ad, len, cap, mm, n', D, Pl, hcs, _, hlc, hcm, hmm, _, hx⟩
  · simp only [List.cons.injEq, and_true] at h0
    exact ⟨none, 0, 0, h0, Nat.le_refl _, by omega, fun h => by omega⟩
  · simp only [List.cons.injEq, and_true] at hcs
    unfold maxLen at hcm
    refine ⟨some ad, len, cap, hcs, hlc, by omega, fun h0 => ?_⟩
    have hlm : len ≤ mm := by rw [hmm]; split <;> omega
    have one : ∀ i, i < len → ∃ u, w.cell? (ad.add i) = some u ∧ S w u := by
      intro i hi
      obtain ⟨cs', hc, ht⟩ := hx i (by omega)
      rw [h1, Nat.mul_one] at hc
      obtain ⟨u, rfl, hcell⟩ := cells_one hc
      exact ⟨u, hcell, hS ht⟩
    obtain ⟨b, off, spot⟩ := ad
    obtain ⟨u0, h00, _⟩ := one 0 h0
    have hspot : spot = none := by simpa [Addr.add] using World.cell?_spot h00
    subst hspot
    refine ⟨b, off, rfl, fun j hj => ?_⟩
    obtain ⟨u, hu, hr⟩ := one j hj
    rw [Addr.add_mid] at hu
    exact ⟨u, hu, hr⟩

theorem open_n8 {m : Nat} {u : Value} {y : DataW H × List MemPlace} (h : DataW.trod enc Tryz.prog w base spare held m 5 [u] = some y) : ∃ q : Nat, u = .int .u8 (q : Int) ∧ q < 256 := by
  obtain ⟨z, e0, _, w0⟩ := DataW.trod_int Tryz.underlying5 h
  simp only [List.cons.injEq, and_true] at e0
  have b := bounds_u8 w0
  exact ⟨z.toNat, by rw [e0, Int.toNat_of_nonneg b.1], by omega⟩

theorem open_b {m : Nat} {u : Value} {y : DataW H × List MemPlace} (h : DataW.trod enc Tryz.prog w base spare held m 23 [u] = some y) : IsB w u := by
  rcases open_slice Tryz.underlying23 h with ⟨h0, _⟩ | _
  · simp only [List.cons.injEq, and_true] at h0
    exact ⟨none, 0, 0, [], h0, by omega, .inl (.inl ⟨rfl, rfl⟩), rfl, by simp⟩
  obtain ⟨a, len, cap, rfl, hlc, hl, hr⟩ := open_rowsOf (S := fun w v => ∃ q : Nat, v = .int .u8 (q : Int) ∧ q < 256) Tryz.underlying23 (by kernel_rfl) (fun h => open_n8 h) h
  by_cases h0 : len = 0
  · subst h0
    refine ⟨a, 0, cap, [], rfl, ⟨hl, hlc⟩, ?_, rfl, by simp⟩
    cases a with
    | none =>
      rcases open_slice Tryz.underlying23 h with ⟨h0, _⟩ | ⟨ad, len, cap, mm, n', D, Pl, hcs, _⟩
      · simp only [List.cons.injEq, and_true] at h0
        rw [h0]; exact .inl (.inl ⟨rfl, rfl⟩)
      · simp only [List.cons.injEq, and_true, Value.slice.injEq] at hcs
        cases hcs.1
    | some ad => exact .inr ⟨ad, cap, rfl, rfl⟩
  obtain ⟨b, o, ha, hc⟩ := hr (by omega)
  have : ∀ i, i < len → ∃ q : Nat, w.cell? ⟨b, o + i, none⟩ = some (.int .u8 (q : Int)) ∧ q < 256 := fun i hi => by
    obtain ⟨v, h1, q, rfl, h2⟩ := hc i hi
    exact ⟨q, h1, h2⟩
  obtain ⟨f, hf⟩ := choose_lt this
  have hll : ((List.range len).map f).length = len := by simp
  refine ⟨a, len, cap, (List.range len).map f, rfl, ⟨hl, hlc⟩, .inl (.inr ⟨b, o, cap, by rw [ha, hll], fun i hi => ?_⟩), hll, fun x hx => ?_⟩
  · rw [hll] at hi
    rw [(hf i hi).1]
    simp [List.getD, hi]
  · simp only [List.mem_map, List.mem_range] at hx
    obtain ⟨i, hi, rfl⟩ := hx
    exact (hf i hi).2

theorem open_rowsSz {S : World → Value → Prop} {ty el : TypeId} (hu : Tryz.prog.underlying ty = some (.slice el)) (h1 : Tryz.prog.cellsOf el = 1) (hS : ∀ {m : Nat} {u : Value} {y : DataW H × List MemPlace}, DataW.trod enc Tryz.prog w base spare held m el [u] = some y → Sz el y.1 → S w u)
    {fuel : Nat} {v : Value} {y : DataW H × List MemPlace} (h : DataW.trod enc Tryz.prog w base spare held fuel ty [v] = some y) (hz : Sz ty y.1) : ∃ a len cap, v = .slice a len cap ∧ len ≤ cap ∧ len * Tryz.prog.bytesOf el ≤ reachBytes ∧ RowsOf S w a len := by
  rcases open_slice hu h with ⟨h0, _⟩ | ⟨ad, len, cap, mm, n', D, Pl, hcs, _, hlc, hcm, hmm, hy, hx⟩
  · simp only [List.cons.injEq, and_true] at h0
    exact ⟨none, 0, 0, h0, Nat.le_refl _, by omega, by omega, fun h => by omega⟩
  · simp only [List.cons.injEq, and_true] at hcs
    unfold maxLen at hcm
    have hlm : len ≤ mm := by rw [hmm]; split <;> omega
    subst hy
    have hzz := hz
    unfold Sz at hzz
    simp only [DataW.weights, hu, List.length_map, List.length_range, List.mem_cons, List.mem_append] at hzz
    have hb : (len + (mm - len)) * Tryz.prog.bytesOf el ≤ reachBytes := hzz _ (Or.inl rfl)
    refine ⟨some ad, len, cap, hcs, hlc, Nat.le_trans (Nat.mul_le_mul_right _ (by omega)) hb, by omega, fun h0 => ?_⟩
    have one : ∀ i, i < len → ∃ u, w.cell? (ad.add i) = some u ∧ S w u := by
      intro i hi
      obtain ⟨cs', hc, ht⟩ := hx i (by omega)
      rw [h1, Nat.mul_one] at hc
      obtain ⟨u, rfl, hcell⟩ := cells_one hc
      refine ⟨u, hcell, hS ht fun n hn => hzz n (Or.inr (Or.inl ?_))⟩
      exact weightsAll_in (List.mem_map.2 ⟨i, List.mem_range.2 hi, rfl⟩) n hn
    obtain ⟨b, off, spot⟩ := ad
    obtain ⟨u0, h00, _⟩ := one 0 h0
    have hspot : spot = none := by simpa [Addr.add] using World.cell?_spot h00
    subst hspot
    refine ⟨b, off, rfl, fun j hj => ?_⟩
    obtain ⟨u, hu, hr⟩ := one j hj
    rw [Addr.add_mid] at hu
    exact ⟨u, hu, hr⟩

theorem open_bs {m : Nat} {u : Value} {y : DataW H × List MemPlace} (h : DataW.trod enc Tryz.prog w base spare held m 23 [u] = some y) (hz : Sz 23 y.1) : IsBs w u := by
  obtain ⟨p, n, cap, bs, rfl, _, h2, h3, h4⟩ := open_b h
  obtain ⟨a, len, cap', e, _, hb, _⟩ := open_rowsSz (S := fun _ _ => True) Tryz.underlying23 (by kernel_rfl) (fun _ _ => trivial) h hz
  have hb8 : Tryz.prog.bytesOf 5 = 1 := by kernel_rfl
  rw [hb8] at hb
  simp only [Value.slice.injEq] at e
  obtain ⟨_, rfl, _⟩ := e
  have := reachBytes_lt
  exact ⟨p, n, cap, bs, rfl, by omega, h2, h3, h4⟩

theorem open_brows {fuel : Nat} {v : Value} {y : DataW H × List MemPlace} (h : DataW.trod enc Tryz.prog w base spare held fuel 22 [v] = some y) (hz : Sz 22 y.1) : ∃ p n cap, v = .slice p n cap ∧ n ≤ 140737488355328 ∧ BRows w p n := by
  obtain ⟨a, len, cap, rfl, _, hb, hl, hr⟩ := open_rowsSz (S := IsBs) Tryz.underlying22 (by kernel_rfl) (fun h hz => open_bs h hz) h hz
  have hb8 : Tryz.prog.bytesOf 23 = 24 := by kernel_rfl
  rw [hb8] at hb
  have := reachBytes_lt
  refine ⟨a, len, cap, rfl, by omega, fun h0 => ?_⟩
  obtain ⟨b, o, ha, hc⟩ := hr h0
  refine ⟨b, o, ha, fun i hi => ?_⟩
  obtain ⟨u, h1, pe, ne, ce, bs, rfl, h3, h4, h5, h6⟩ := hc i hi
  exact ⟨_, h1, pe, ne, ce, bs, rfl, h3, h4, h5, h6⟩
end

open Go.ChangeAt Go.RowKit
def laidTab : List (String × DataW Unit) := [("math/bits.deBruijn64tab", Rows.laid_math_bits_deBruijn64tab), ("fathom/block.changes", Rows.laid_fathom_block_changes)]

theorem gTab : Tryz.prog.globalNamed "math/bits.deBruijn64tab" = some 2 := by kernel_rfl
theorem tTab : (Tryz.prog.globals[2]?).map (·.type) = some 259 := by kernel_rfl
theorem gTabC : Tryz.prog.globalNamed "fathom/block.changes" = some 0 := by kernel_rfl
theorem tTabC : (Tryz.prog.globals[0]?).map (·.type) = some 62 := by kernel_rfl
theorem cells8 : Tryz.prog.cellsOf 5 = 1 := by kernel_rfl
theorem cells32 : Tryz.prog.cellsOf 25 = 1 := by kernel_rfl

theorem tab_list {H : Type} : (Rows.laid_math_bits_deBruijn64tab : DataW H) = .agg (Lib.deBruijn64tab.map fun n : Nat => .lit (.int .u8 (n : Int))) := rfl
theorem tab_listC {H : Type} : (Rows.laid_fathom_block_changes : DataW H) = .agg (crcTab.map fun n : Nat => .lit (.int .u32 (n : Int))) := rfl

theorem tabs_of_laid {W : World} (h : laidMetH Tryz.prog laidTab W) : Tab64 W ∧ TabC W := by
  rw [MakeChecks.laidMetH_plain _ _ _ (by kernel_rfl)] at h
  obtain ⟨ps, ⟨g, t, cs, fuel, p, q, hg, ht, hv, hd, ⟨g2, t2, cs2, fuel2, p2, q2, hg2, ht2, hv2, hd2, _, _⟩, _⟩, _, _⟩ := h
  obtain rfl := Option.some.inj (gTab.symm.trans hg)
  obtain rfl := Option.some.inj (tTab.symm.trans ht)
  obtain rfl := Option.some.inj (gTabC.symm.trans hg2)
  obtain rfl := Option.some.inj (tTabC.symm.trans ht2)
  constructor
  · obtain ⟨xs, m, _, ex, hlen, hl, hel⟩ := DataW.trod_array Tryz.underlying259 hd
    rw [tab_list] at ex
    have ex2 := DataW.agg.inj (Prod.mk.inj ex).1
    intro j hj
    rw [World.var?_cell gTab hv j]
    have hjx : j < xs.length := by omega
    have k := hel j hj
    rw [cells8, Nat.mul_one, List.getElem?_eq_getElem hjx] at k
    obtain ⟨z, a, b, _⟩ := DataW.trod_int Tryz.underlying5 k
    have hz : (Lib.deBruijn64tab.map fun n : Nat => (.lit (.int .u8 (n : Int)) : DataW Unit))[j]? = some (.lit (.int .u8 z)) := by
      rw [ex2, List.getElem?_map, List.getElem?_eq_getElem hjx, Option.map_some, b]
    have hjt : j < Lib.deBruijn64tab.length := hj
    rw [List.getElem?_map, List.getElem?_eq_getElem hjt, Option.map_some] at hz
    simp only [Option.some.injEq, DataW.lit.injEq, Lit.int.injEq, true_and] at hz
    have hc : cs.toList[j]? = some (.int .u8 z) := by
      have := congrArg (·[0]?) a
      simpa [List.getElem?_take, List.getElem?_drop] using this
    have hg2 : Lib.deBruijn64tab.getD j 0 = Lib.deBruijn64tab[j] := by simp [List.getD, List.getElem?_eq_getElem hjt]
    rw [hg2, hz, ← hc]
    simp
  · obtain ⟨xs, m, _, ex, hlen, hl, hel⟩ := DataW.trod_array Tryz.underlying62 hd2
    rw [tab_listC] at ex
    have ex2 := DataW.agg.inj (Prod.mk.inj ex).1
    intro j hj
    rw [World.var?_cell gTabC hv2 j]
    have hjx : j < xs.length := by omega
    have k := hel j hj
    rw [cells32, Nat.mul_one, List.getElem?_eq_getElem hjx] at k
    obtain ⟨z, a, b, _⟩ := DataW.trod_int Tryz.underlying25 k
    have hz : (crcTab.map fun n : Nat => (.lit (.int .u32 (n : Int)) : DataW Unit))[j]? = some (.lit (.int .u32 z)) := by
      rw [ex2, List.getElem?_map, List.getElem?_eq_getElem hjx, Option.map_some, b]
    have hjt : j < crcTab.length := hj
    rw [List.getElem?_map, List.getElem?_eq_getElem hjt, Option.map_some] at hz
    simp only [Option.some.injEq, DataW.lit.injEq, Lit.int.injEq, true_and] at hz
    have hc : cs2.toList[j]? = some (.int .u32 z) := by
      have := congrArg (·[0]?) a
      simpa [List.getElem?_take, List.getElem?_drop] using this
    have hg2 : crcTab.getD j 0 = crcTab[j] := by simp [List.getD, List.getElem?_eq_getElem hjt]
    rw [hg2, hz, ← hc]
    simp

end Go.Proofs.YtpdaklklhoenhaaGreatDoor

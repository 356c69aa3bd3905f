/- The law's own text, read. -/
import Derived.Test.YtgcmdbpanfeaaabGreatDoorL3F
import Derived.Test.YtgcmdbpanfeaaabGreatDoorL2I
namespace Go.Proofs.YtgcmdbpanfeaaabGreatDoor
open Go.RowKit
set_option linter.unusedVariables false
set_option linter.unusedSimpArgs false

theorem RD.belowB {w w' : World} {g B : Nat} {s : ByteArray} {a : Nat} (h : RD w g s a) (hb : Below B w w') (hg : g < B) : RD w' g s a := ⟨by rw [hb.block g hg]; exact h.row⟩

def txt0 : ByteArray := ⟨#[123, 32, 98, 61, 34, 120, 34, 44, 32, 97, 32, 61, 32, 34, 121, 34, 32, 125]⟩
def lb : Lab := (⟨#[98]⟩, ⟨#[120]⟩)
def la : Lab := (⟨#[97]⟩, ⟨#[121]⟩)

theorem OL.ch {B g : Nat} {wr w2 : World} {L : List Lab} {v : Value} (h : OL B wr L v wr) (hc : Ch g wr w2) (hg : g < B) : OL B w2 L v w2 :=
  ⟨ownsRow_keep h.own fun k hk => hc.blk k (h.own.lt k hk).2 (by have := (h.own.lt k hk).1; omega), Below.refl _ _, Nat.le_trans h.le hc.size⟩
theorem Ch.app {B g : Nat} {w wr w2 : World} (h : Ch g w wr) (hb : Below B wr w2) (hB : B = w.heap.size) : Ch g w w2 :=
  ⟨hb.os.trans h.os, hb.tape.trans h.tape, hb.output.trans h.output, Nat.le_trans h.size hb.size, fun k hk hne => (hb.block k (by omega)).trans (h.blk k hk hne)⟩
theorem OL.self {B : Nat} {w0 wr : World} {L : List Lab} {v : Value} (h : OL B w0 L v wr) : OL B wr L v wr := ⟨h.own, Below.refl _ _, Nat.le_trans h.le h.bel.size⟩

theorem fact_f1 : nextB (bytesN txt0) 0 123 = true := by decide +kernel
theorem fact_f2 : skipB (bytesN txt0) 0 = 0 := by decide +kernel
theorem fact_f3 : nextB (bytesN txt0) 1 125 = false := by decide +kernel
theorem fact_f4 : skipB (bytesN txt0) 1 = 2 := by decide +kernel
theorem fact_f5 : labF (bytesN txt0) 2 = (some ([98], [120]), 7) := by decide +kernel
theorem fact_f6 : nextB (bytesN txt0) 7 125 = false := by decide +kernel
theorem fact_f7 : skipB (bytesN txt0) 7 = 7 := by decide +kernel
theorem fact_f8 : nextB (bytesN txt0) 7 44 = true := by decide +kernel
theorem fact_f9 : labF (bytesN txt0) 8 = (some ([97], [121]), 16) := by decide +kernel
theorem fact_f10 : nextB (bytesN txt0) 16 125 = true := by decide +kernel
theorem fact_f11 : skipB (bytesN txt0) 16 = 17 := by decide +kernel
theorem fact_f12 : skipB (bytesN txt0) 18 = 18 := by decide +kernel
theorem size0 : txt0.size = 18 := rfl
theorem ext0 : txt0.extract 18 txt0.size = ⟨#[]⟩ := by decide +kernel

set_option maxRecDepth 100000 in
set_option maxHeartbeats 2000000 in
theorem labels_ex (g : Nat) (w : World) (h : RD w g txt0 0) (hE : ES w) (hgE : g ≠ 3) :
    Calls Tryz.prog 30 #[.pointer (some ⟨g, 0, none⟩)] w fun e w' => ∃ v, e = .returned (.tuple #[v, .bool true]) ∧ OL w.heap.size w' [lb, la] v w' ∧ RD w' g txt0 18 ∧ Ch g w w' := by
  have hgl : g < w.heap.size := size_lt_of_row h.row
  have HG := hide hgl
  have HES : Hid (∀ w', Ch g w w' → ES w') := by
    intro w' hc
    obtain ⟨ev, h1, h2⟩ := hE
    have hlt := block_lt_of_cell h1
    exact ⟨ev, by rw [World.cell?_of_block (w := w) (hc.blk _ hlt (fun e => hgE e.symm))]; exact h1, h2⟩
  have HT1 : Hid (∀ w', RD w' g txt0 0 → Calls Tryz.prog 46 #[.pointer (some ⟨g, 0, none⟩), .int .u8 123] w' fun e w2 => e = .returned (.bool true) ∧ RD w2 g txt0 1 ∧ Ch g w' w2) := fun w' h => by
    have := take_any g txt0 0 123 w' h (by rw [size0]; decide) (by rw [size0]; decide)
    simp only [fact_f1, fact_f2, if_true, Bool.false_eq_true, if_false] at this; exact this
  have HT2 : Hid (∀ w', RD w' g txt0 1 → Calls Tryz.prog 46 #[.pointer (some ⟨g, 0, none⟩), .int .u8 125] w' fun e w2 => e = .returned (.bool false) ∧ RD w2 g txt0 2 ∧ Ch g w' w2) := fun w' h => by
    have := take_any g txt0 1 125 w' h (by rw [size0]; decide) (by rw [size0]; decide)
    simp only [fact_f3, fact_f4, if_true, Bool.false_eq_true, if_false] at this; exact this
  have HT3 : Hid (∀ w', RD w' g txt0 7 → Calls Tryz.prog 46 #[.pointer (some ⟨g, 0, none⟩), .int .u8 125] w' fun e w2 => e = .returned (.bool false) ∧ RD w2 g txt0 7 ∧ Ch g w' w2) := fun w' h => by
    have := take_any g txt0 7 125 w' h (by rw [size0]; decide) (by rw [size0]; decide)
    simp only [fact_f6, fact_f7, if_true, Bool.false_eq_true, if_false] at this; exact this
  have HT4 : Hid (∀ w', RD w' g txt0 7 → Calls Tryz.prog 46 #[.pointer (some ⟨g, 0, none⟩), .int .u8 44] w' fun e w2 => e = .returned (.bool true) ∧ RD w2 g txt0 8 ∧ Ch g w' w2) := fun w' h => by
    have := take_any g txt0 7 44 w' h (by rw [size0]; decide) (by rw [size0]; decide)
    simp only [fact_f8, fact_f7, if_true, Bool.false_eq_true, if_false] at this; exact this
  have HT5 : Hid (∀ w', RD w' g txt0 16 → Calls Tryz.prog 46 #[.pointer (some ⟨g, 0, none⟩), .int .u8 125] w' fun e w2 => e = .returned (.bool true) ∧ RD w2 g txt0 18 ∧ Ch g w' w2) := fun w' h => by
    have := take_any g txt0 16 125 w' h (by rw [size0]; decide) (by rw [size0]; decide)
    simp only [fact_f10, fact_f11, if_true, Bool.false_eq_true, if_false] at this; exact this
  have HL1 : Hid (∀ w', RD w' g txt0 2 → Ch g w w' → Calls Tryz.prog 47 #[.pointer (some ⟨g, 0, none⟩)] w' fun e w2 => e = .returned (.tuple #[.agg #[.string ⟨#[98]⟩, .string ⟨#[120]⟩], .bool true]) ∧ RD w2 g txt0 7 ∧ Ch g w' w2) := fun w' h hc => by
    have := label_any g txt0 2 w' h (by rw [size0]; decide) (by rw [size0]; decide) (HES.out w' hc) hgE
    rw [fact_f5] at this; exact this
  have HL2 : Hid (∀ w', RD w' g txt0 8 → Ch g w w' → Calls Tryz.prog 47 #[.pointer (some ⟨g, 0, none⟩)] w' fun e w2 => e = .returned (.tuple #[.agg #[.string ⟨#[97]⟩, .string ⟨#[121]⟩], .bool true]) ∧ RD w2 g txt0 16 ∧ Ch g w' w2) := fun w' h hc => by
    have := label_any g txt0 8 w' h (by rw [size0]; decide) (by rw [size0]; decide) (HES.out w' hc) hgE
    rw [fact_f9] at this; exact this
  have HR1 : Hid (∀ w', RD w' g txt0 18 → Calls Tryz.prog 48 #[.pointer (some ⟨g, 0, none⟩)] w' fun e w2 => e = .returned (.string ⟨#[]⟩) ∧ RD w2 g txt0 18 ∧ Ch g w' w2) := fun w' h => by
    have := rest_any g txt0 18 w' h (by rw [size0]; decide) (by rw [size0]; decide)
    rw [fact_f12, ext0] at this; exact this
  have HRD := hide h
  clear h hE
  obtain ⟨T, hT⟩ : ∃ T, txt0 = T := ⟨_, rfl⟩
  rw [hT] at HT1 HT2 HT3 HT4 HT5 HL1 HL2 HR1 HRD ⊢
  clear hT
  go_enter Tryz.func30, Tryz.ntmps30
  go_wp2_with (first
    | (go_at_call 46; refine (HT2.out _ H1.out.1).mono ?_; rintro e w2 ⟨rfl, hr, hch⟩; have H2 := hide (And.intro hr (H1.out.2.trans hch)); clear hr hch)
    | (go_at_call 46; refine (HT1.out _ HRD.out).mono ?_; rintro e w1 ⟨rfl, hr, hch⟩; have H1 := hide (And.intro hr hch); clear hr hch))
  refine wp_loop_rounds 3 ?_
  rw [rounds_succ]
  have HO2 : Hid (OL w.heap.size w2 [] (.slice none 0 0) w2) := ⟨World.ownsRow_nil _ _ _ _, Below.refl _ _, H2.out.2.size⟩
  go_wp2_with (first
    | (go_at_call 46; refine (HT3.out _ H4.out.1).mono ?_; rintro e w5 ⟨rfl, hr, hch⟩; have H5 := hide (And.intro hr (H4.out.2.trans hch)); have HO5 := hide (HO4.out.ch hch HG.out); clear hr hch)
    | (at_builtin; go_loud (refine wp_app_lab rfl _ _ rfl w.heap.size _ _ [] lb _ 1 _ HO3.out rfl (by simp [Act.eval]) (by decide) ?_; intro v4 w4 ho; have H4 := hide (And.intro (H3.out.1.belowB ho.bel HG.out) (H3.out.2.app ho.bel rfl)); have HO4 := hide ho.self; obtain ⟨p4, c4, hv4, -⟩ := ho.slice; simp only [List.nil_append, List.length_cons, List.length_nil, Nat.zero_add] at hv4; clear ho; subst hv4))
    | (go_at_call 47; refine (HL1.out _ H2.out.1 H2.out.2).mono ?_; rintro e w3 ⟨rfl, hr, hch⟩; have hbA := (Below.refl w3.heap.size w3).alloc (Nat.le_refl _) (.cells #[.string ⟨#[98]⟩, .string ⟨#[120]⟩] 34); have H3 := hide (And.intro (hr.below hbA) ((H2.out.2.trans hch).trans (Ch.of hbA))); have HO3 := hide ((HO2.out.ch hch HG.out).ch (Ch.of (g := g) hbA) HG.out); have HOw3 := hide (HO2.out.ch hch HG.out); clear hr hch hbA))
  rw [rounds_succ]
  go_wp2_with (first
    | (go_at_call 46; refine (HT5.out _ H8.out.1).mono ?_; rintro e w9 ⟨rfl, hr, hch⟩; have H9 := hide (And.intro hr (H8.out.2.trans hch)); have HO9 := hide (HO8.out.ch hch HG.out); clear hr hch)
    | (at_builtin; go_loud (refine wp_app_lab rfl _ _ rfl w.heap.size _ _ [lb] la _ 1 _ HO7.out rfl (by simp [Act.eval]) (by decide) ?_; intro v8 w8 ho; have H8 := hide (And.intro (H7.out.1.belowB ho.bel HG.out) (H7.out.2.app ho.bel rfl)); have HO8 := hide ho.self; clear ho))
    | (go_at_call 47; refine (HL2.out _ H6.out.1 H6.out.2).mono ?_; rintro e w7 ⟨rfl, hr, hch⟩; have hbA := (Below.refl w7.heap.size w7).alloc (Nat.le_refl _) (.cells #[.string ⟨#[97]⟩, .string ⟨#[121]⟩] 34); have H7 := hide (And.intro (hr.below hbA) ((H6.out.2.trans hch).trans (Ch.of hbA))); have HO7 := hide ((HO6.out.ch hch HG.out).ch (Ch.of (g := g) hbA) HG.out); clear hr hch hbA)
    | (go_at_call 46; refine (HT4.out _ H5.out.1).mono ?_; rintro e w6 ⟨rfl, hr, hch⟩; have H6 := hide (And.intro hr (H5.out.2.trans hch)); have HO6 := hide (HO5.out.ch hch HG.out); clear hr hch))
  rw [rounds_succ]
  go_wp2_with (go_at_call 48; refine (HR1.out _ H9.out.1).mono ?_; rintro e w10 ⟨rfl, hr, hch⟩; have H10 := hide (And.intro hr (H9.out.2.trans hch)); have HO10 := hide (HO9.out.ch hch HG.out); clear hr hch)
  go_ret2
  exact ⟨_, rfl, HO10.out, H10.out⟩

end Go.Proofs.YtgcmdbpanfeaaabGreatDoor

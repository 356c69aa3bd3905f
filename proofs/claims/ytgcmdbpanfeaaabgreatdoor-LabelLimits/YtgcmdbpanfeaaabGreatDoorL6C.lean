/- Facts of the ends: names, values, sets. -/
import Derived.Test.YtgcmdbpanfeaaabGreatDoorL6A
import Derived.Test.YtgcmdbpanfeaaabGreatDoorL6B
namespace Go.Proofs.YtgcmdbpanfeaaabGreatDoor
open Go.RowKit
set_option linter.unusedVariables false
set_option linter.unusedSimpArgs false

def rpt (c n : Nat) : ByteArray := strOf (List.replicate n c)
def txX : ByteArray := ⟨#[120]⟩

theorem rpt_size (c n : Nat) : (rpt c n).size = n := by simp [rpt]
theorem lim1 : refL [] [(rpt 97 64, txX)] = 0 := by decide +kernel
theorem lim2 : refL [] [(rpt 97 65, txX)] = 130 := by decide +kernel
theorem lim3 : refL [] [(⟨#[]⟩, txX)] = 130 := by decide +kernel
theorem lim4 : refL [] [(⟨#[97]⟩, rpt 120 256)] = 0 := by decide +kernel
theorem lim5 : refL [] [(⟨#[97]⟩, rpt 120 257)] = 131 := by decide +kernel
theorem lim6 : refL [] [(⟨#[95, 57, 90]⟩, ⟨#[]⟩)] = 0 := by decide +kernel

def nmB (i : Nat) : ByteArray := ([⟨#[57]⟩, ⟨#[97, 45, 98]⟩, ⟨#[97, 32, 98]⟩, ⟨#[0]⟩, ⟨#[97, 195]⟩, ⟨#[195, 169]⟩, ⟨#[123]⟩, ⟨#[97, 46]⟩] : List ByteArray).getD i ⟨#[]⟩
def vlB (i : Nat) : ByteArray := ([⟨#[255]⟩, ⟨#[97, 128]⟩, ⟨#[192, 128]⟩, ⟨#[195]⟩, ⟨#[237, 160, 128]⟩, ⟨#[244, 144, 128, 128]⟩, ⟨#[224, 128, 128]⟩, ⟨#[248, 136, 128, 128, 128]⟩, ⟨#[195, 40]⟩] : List ByteArray).getD i ⟨#[]⟩
def vlG (i : Nat) : ByteArray := ([⟨#[0]⟩, ⟨#[239, 191, 189]⟩, ⟨#[244, 143, 191, 191]⟩, ⟨#[237, 159, 191]⟩, ⟨#[194, 128]⟩, ⟨#[34, 92, 10, 127]⟩] : List ByteArray).getD i ⟨#[]⟩
theorem nmB_is : ∀ i, i < 8 → refL [] [(nmB i, txX)] = 130 ∧ (nmB i).size ≤ 1000 := by decide +kernel
theorem vlB_is : ∀ i, i < 9 → refL [] [(⟨#[97]⟩, vlB i)] = 131 ∧ (vlB i).size ≤ 1000 := by decide +kernel
theorem vlG_is : ∀ i, i < 6 → refL [] [(⟨#[97]⟩, vlG i)] = 0 ∧ (vlG i).size ≤ 1000 := by decide +kernel

/-- The labels of the law: a, ab, abb, .. -/
def labsN (n : Nat) : List Lab := (List.range n).map fun k => (⟨#[97]⟩ ++ rpt 98 k, txX)
theorem labsN_succ (n : Nat) : labsN (n + 1) = labsN n ++ [(⟨#[97]⟩ ++ rpt 98 n, txX)] := by simp [labsN, List.range_succ]
theorem labsN_length (n : Nat) : (labsN n).length = n := by simp [labsN]
theorem labs1 : refL [] (labsN 17) = 0 := by decide +kernel
theorem labs2 : (flL (labsN 17)).length = 17 := by decide +kernel
theorem labs3 : setOk (labsN 17) = false := by decide +kernel
theorem labs4 : refL [] ((labsN 17).drop 1) = 0 := by decide +kernel
theorem labs5 : (flL ((labsN 17).drop 1)).length = 16 := by decide +kernel
theorem labs6 : ∀ x ∈ labsN 17, x.1.size ≤ 1000000 ∧ x.2.size ≤ 1000000 := by decide +kernel

theorem LR.drop1 {w : World} {b o : Nat} {L : List Lab} (h : LR w (some ⟨b, o, none⟩) L) : LR w (some ⟨b, o + 2, none⟩) (L.drop 1) := by
  intro h0
  rw [List.length_drop] at h0
  obtain ⟨b', o', hp, hc⟩ := h (by omega)
  simp only [Option.some.injEq, Addr.mk.injEq, and_true] at hp
  obtain ⟨rfl, rfl⟩ := hp
  refine ⟨_, _, rfl, fun i hi => ?_⟩
  rw [List.length_drop] at hi
  have h2 := hc (i + 1) (by omega)
  have e1 : o + 2 + i * 2 = o + (i + 1) * 2 := by omega
  have e2 : (L.drop 1).getD i lab0 = L.getD (i + 1) lab0 := by simp [List.getD, Nat.add_comm]
  rw [e1, e2]
  exact h2

theorem OL.own17 {B : Nat} {w0 wr : World} {L : List Lab} {v : Value} (h : OL B w0 L v wr) (n : Nat) (hn : L.length = n) (h0 : 0 < n) : ∃ g cap, v = .slice (some ⟨g, 0, none⟩) n cap ∧ n ≤ cap ∧ cap ≤ 9223372036854775807 ∧ LR wr (some ⟨g, 0, none⟩) L := by
  subst hn
  rcases h.own.2 with ⟨h1, h2⟩ | ⟨g, cap, cur, h1, hb, hg, hc, hm, hs, ht⟩
  · omega
  · obtain ⟨p, cap', e, hl⟩ := h.slice
    rw [h1] at e
    simp only [Value.slice.injEq, true_and] at e
    rw [← e.1] at hl
    unfold maxLen at hm
    exact ⟨g, cap, h1, hc, by omega, hl⟩

end Go.Proofs.YtgcmdbpanfeaaabGreatDoor

/- What a Reader in memory holds (Rd), and the contracts of size, Left, refuse, look. -/
import Derived.Test.YtenhippcjnemcaaDoorB1W
namespace Go.Proofs.YtenhippcjnemcaaDoor
open Go.RowKit
open M
set_option linter.unusedVariables false

/-- The numbers of a text's bytes. -/
def bytesN (s : ByteArray) : List Nat := s.data.toList.map UInt8.toNat

@[simp] theorem bytesN_length (s : ByteArray) : (bytesN s).length = s.size := by simp [bytesN]

/-- The Reader at off of block b reads s, has taken a bits, its first refusal is e. -/
structure Rd (w : World) (b off : Nat) (s : ByteArray) (a : Nat) (e : Int) : Prop where
  text : w.cell? ⟨b, off, none⟩ = some (.string s)
  at_ : w.cell? ⟨b, off + 1, none⟩ = some (.int .i64 a)
  err : w.cell? ⟨b, off + 2, none⟩ = some (.int .i64 e)
  fz : ∀ j, j < 3 → w.frozen? ⟨b, off + j, none⟩ = false
  size : s.size ≤ 1000000000000
  le : a ≤ 8 * s.size

theorem Rd.drewN {w : World} {b off : Nat} {s : ByteArray} {a : Nat} {e : Int} (h : Rd w b off s a e) (n : Nat) : Rd (w.drewN n) b off s a e := ⟨h.text, h.at_, h.err, h.fz, h.size, h.le⟩

theorem rsize_any (b off : Nat) (s : ByteArray) (w : World) (h : w.cell? ⟨b, off, none⟩ = some (.string s)) (hs : s.size ≤ 1000000000000) :
    Calls Tryd.prog 43 #[.pointer (some ⟨b, off, none⟩)] w fun e w' => e = .returned (.int .i64 ((8 * s.size : Nat) : Int)) ∧ w' = w := by
  go_enter Tryd.func43, Tryd.ntmps43
  go_wp2
  go_ret
  exact ⟨by simp; omega, rfl⟩

theorem rleft_any (b off : Nat) (s : ByteArray) (a : Nat) (e0 : Int) (w : World) (h : Rd w b off s a e0) :
    Calls Tryd.prog 29 #[.pointer (some ⟨b, off, none⟩)] w fun e w' => e = .returned (.int .i64 ((8 * s.size - a : Nat) : Int)) ∧ ∃ n, w' = w.drewN n := by
  have h1 := h.text
  have h2 := h.at_
  have h3 := h.size
  have h4 := h.le
  go_enter Tryd.func29, Tryd.ntmps29
  go_wp2_with fail
  go_quiet ((go_at_call 43; exact Calls.quiet_of_same (rsize_any b off s _ h1 h3)))
  go_wp2
  go_ret
  exact ⟨by simp; omega, _, rfl⟩

theorem rrefuse_zero (b off : Nat) (m : Int) (w : World) (hn : w.cell? ⟨b, off + 2, none⟩ = some (.int .i64 0)) (hf : w.frozen? ⟨b, off + 2, none⟩ = false) :
    Calls Tryd.prog 36 #[.pointer (some ⟨b, off, none⟩), .int .i64 m] w fun e w' => e = .returned (.tuple #[]) ∧ w' = w.setCell ⟨b, off + 2, none⟩ (.int .i64 m) := by
  go_enter Tryd.func36, Tryd.ntmps36
  go_wp2
  go_end0
  exact ⟨rfl, rfl⟩

theorem rrefuse_not (b off : Nat) (m e0 : Int) (w : World) (hn : w.cell? ⟨b, off + 2, none⟩ = some (.int .i64 e0)) (hf : (e0 == 0) = false) :
    Calls Tryd.prog 36 #[.pointer (some ⟨b, off, none⟩), .int .i64 m] w fun e w' => e = .returned (.tuple #[]) ∧ w' = w := by
  go_enter Tryd.func36, Tryd.ntmps36
  go_wp2
  go_end0
  exact ⟨rfl, rfl⟩

end Go.Proofs.YtenhippcjnemcaaDoor

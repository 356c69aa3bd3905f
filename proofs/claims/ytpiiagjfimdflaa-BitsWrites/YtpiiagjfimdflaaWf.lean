/- The law's Book: the lists that stay empty; the mark of a list. -/
import Derived.Test.YtpiiagjfimdflaaWe
namespace Go.Proofs.Ytpiiagjfimdflaa
open Go.RowKit
open M
set_option linter.unusedVariables false

theorem setCell_same (w : World) (b i : Nat) (v : Value) (h : w.cell? ⟨b, i, none⟩ = some v) : w.setCell ⟨b, i, none⟩ v = w := by
  obtain ⟨heap, _⟩ := w
  simp only [World.setCell, World.cell?] at h ⊢
  congr 1
  apply Array.ext_getElem?
  intro k
  rw [Array.getElem?_modify]
  by_cases hk : b = k
  · subst hk
    rw [if_pos rfl]
    cases hb : heap[b]? with
    | none => rfl
    | some o =>
      rw [hb] at h
      cases o <;> simp at h ⊢
      rename_i c e f
      apply Array.ext_getElem?
      intro j
      rw [Array.getElem?_setIfInBounds]
      split
      · rename_i hj
        subst hj
        split
        · exact h.symm
        · rename_i hlt
          rw [Array.getElem?_eq_none (by omega)] at h; simp at h
      · rfl
  · rw [if_neg hk]

/-- All lists of the Book but the one of bytes are nil. -/
structure BookNil (w : World) (NB : Nat) : Prop where
  nils : ∀ j, 3 ≤ j → j < 69 → j % 3 ≠ 2 → w.cell? ⟨NB, j, none⟩ = some (.slice none 0 0)
  ats : ∀ j, 3 ≤ j → j < 69 → j % 3 = 2 → w.cell? ⟨NB, j, none⟩ = some (.int .i64 0)
  fz : ∀ j, j < 72 → w.frozen? ⟨NB, j, none⟩ = false

set_option maxRecDepth 100000 in
set_option maxHeartbeats 4000000 in
theorem hold73 (NB : Nat) (w : World) (h : BookNil w NB) : Calls Try.prog 73 #[.pointer (some ⟨NB, 0, none⟩)] w fun e w' => e = .returned (.bool true) ∧ w' = w := by
  have c6 := h.nils 6 (by omega) (by omega) (by omega)
  have c9 := h.nils 9 (by omega) (by omega) (by omega)
  have c12 := h.nils 12 (by omega) (by omega) (by omega)
  have c15 := h.nils 15 (by omega) (by omega) (by omega)
  clear h
  go_enter Try.func73, Try.ntmps73
  go_wp2
  go_loopw [3] (fun t wx => t = .int .i64 0 ∧ wx = w) (fun _ _ => 0)
  case atStart => exact ⟨rfl, rfl⟩
  case round =>
    obtain ⟨rfl, hw⟩ := hrel
    subst hw
    go_wp2_with fail
    go_loopw [5] (fun t wx => t = .int .i64 0 ∧ wx = wr) (fun _ _ => 0)
    case atStart => exact ⟨rfl, rfl⟩
    case round =>
      obtain ⟨rfl, hw⟩ := hrel
      subst hw
      go_wp2_with fail
      go_loopw [7] (fun t wx => t = .int .i64 0 ∧ wx = wr) (fun _ _ => 0)
      case atStart => exact ⟨rfl, rfl⟩
      case round =>
        obtain ⟨rfl, hw⟩ := hrel
        subst hw
        go_wp2_with fail
        go_loopw [9] (fun t wx => t = .int .i64 0 ∧ wx = wr) (fun _ _ => 0)
        case atStart => exact ⟨rfl, rfl⟩
        case round =>
          obtain ⟨rfl, hw⟩ := hrel
          subst hw
          go_wp2_with fail
          go_ret
          exact ⟨rfl, rfl⟩

set_option maxRecDepth 100000 in
set_option maxHeartbeats 4000000 in
theorem hold74 (NB : Nat) (w : World) (h : BookNil w NB) : Calls Try.prog 74 #[.pointer (some ⟨NB, 0, none⟩)] w fun e w' => e = .returned (.bool true) ∧ w' = w := by
  have c18 := h.nils 18 (by omega) (by omega) (by omega)
  have c21 := h.nils 21 (by omega) (by omega) (by omega)
  have c24 := h.nils 24 (by omega) (by omega) (by omega)
  have c27 := h.nils 27 (by omega) (by omega) (by omega)
  clear h
  go_enter Try.func74, Try.ntmps74
  go_wp2
  go_loopw [3] (fun t wx => t = .int .i64 0 ∧ wx = w) (fun _ _ => 0)
  case atStart => exact ⟨rfl, rfl⟩
  case round =>
    obtain ⟨rfl, hw⟩ := hrel
    subst hw
    go_wp2_with fail
    go_loopw [5] (fun t wx => t = .int .i64 0 ∧ wx = wr) (fun _ _ => 0)
    case atStart => exact ⟨rfl, rfl⟩
    case round =>
      obtain ⟨rfl, hw⟩ := hrel
      subst hw
      go_wp2_with fail
      go_loopw [7] (fun t wx => t = .int .i64 0 ∧ wx = wr) (fun _ _ => 0)
      case atStart => exact ⟨rfl, rfl⟩
      case round =>
        obtain ⟨rfl, hw⟩ := hrel
        subst hw
        go_wp2_with fail
        go_loopw [9] (fun t wx => t = .int .i64 0 ∧ wx = wr) (fun _ _ => 0)
        case atStart => exact ⟨rfl, rfl⟩
        case round =>
          obtain ⟨rfl, hw⟩ := hrel
          subst hw
          go_wp2_with fail
          go_ret
          exact ⟨rfl, rfl⟩

set_option maxRecDepth 100000 in
set_option maxHeartbeats 4000000 in
theorem hold75 (NB : Nat) (w : World) (h : BookNil w NB) : Calls Try.prog 75 #[.pointer (some ⟨NB, 0, none⟩)] w fun e w' => e = .returned (.bool true) ∧ w' = w := by
  have c30 := h.nils 30 (by omega) (by omega) (by omega)
  have c33 := h.nils 33 (by omega) (by omega) (by omega)
  have c36 := h.nils 36 (by omega) (by omega) (by omega)
  have c39 := h.nils 39 (by omega) (by omega) (by omega)
  clear h
  go_enter Try.func75, Try.ntmps75
  go_wp2
  go_loopw [3] (fun t wx => t = .int .i64 0 ∧ wx = w) (fun _ _ => 0)
  case atStart => exact ⟨rfl, rfl⟩
  case round =>
    obtain ⟨rfl, hw⟩ := hrel
    subst hw
    go_wp2_with fail
    go_loopw [5] (fun t wx => t = .int .i64 0 ∧ wx = wr) (fun _ _ => 0)
    case atStart => exact ⟨rfl, rfl⟩
    case round =>
      obtain ⟨rfl, hw⟩ := hrel
      subst hw
      go_wp2_with fail
      go_loopw [7] (fun t wx => t = .int .i64 0 ∧ wx = wr) (fun _ _ => 0)
      case atStart => exact ⟨rfl, rfl⟩
      case round =>
        obtain ⟨rfl, hw⟩ := hrel
        subst hw
        go_wp2_with fail
        go_loopw [11] (fun t wx => t = .int .i64 0 ∧ wx = wr) (fun _ _ => 0)
        case atStart => exact ⟨rfl, rfl⟩
        case round =>
          obtain ⟨rfl, hw⟩ := hrel
          subst hw
          go_wp2_with fail
          go_ret
          exact ⟨rfl, rfl⟩

set_option maxRecDepth 100000 in
set_option maxHeartbeats 4000000 in
theorem hold76 (NB : Nat) (w : World) (h : BookNil w NB) : Calls Try.prog 76 #[.pointer (some ⟨NB, 0, none⟩)] w fun e w' => e = .returned (.bool true) ∧ w' = w := by
  have c42 := h.nils 42 (by omega) (by omega) (by omega)
  have c45 := h.nils 45 (by omega) (by omega) (by omega)
  have c48 := h.nils 48 (by omega) (by omega) (by omega)
  have c51 := h.nils 51 (by omega) (by omega) (by omega)
  clear h
  go_enter Try.func76, Try.ntmps76
  go_wp2
  go_loopw [3] (fun t wx => t = .int .i64 0 ∧ wx = w) (fun _ _ => 0)
  case atStart => exact ⟨rfl, rfl⟩
  case round =>
    obtain ⟨rfl, hw⟩ := hrel
    subst hw
    go_wp2_with fail
    go_loopw [7] (fun t wx => t = .int .i64 0 ∧ wx = wr) (fun _ _ => 0)
    case atStart => exact ⟨rfl, rfl⟩
    case round =>
      obtain ⟨rfl, hw⟩ := hrel
      subst hw
      go_wp2_with fail
      go_loopw [11] (fun t wx => t = .int .i64 0 ∧ wx = wr) (fun _ _ => 0)
      case atStart => exact ⟨rfl, rfl⟩
      case round =>
        obtain ⟨rfl, hw⟩ := hrel
        subst hw
        go_wp2_with fail
        go_loopw [15] (fun t wx => t = .int .i64 0 ∧ wx = wr) (fun _ _ => 0)
        case atStart => exact ⟨rfl, rfl⟩
        case round =>
          obtain ⟨rfl, hw⟩ := hrel
          subst hw
          go_wp2_with fail
          go_ret
          exact ⟨rfl, rfl⟩

set_option maxRecDepth 100000 in
set_option maxHeartbeats 4000000 in
theorem hold77 (NB : Nat) (w : World) (h : BookNil w NB) : Calls Try.prog 77 #[.pointer (some ⟨NB, 0, none⟩)] w fun e w' => e = .returned (.bool true) ∧ w' = w := by
  have c54 := h.nils 54 (by omega) (by omega) (by omega)
  have c57 := h.nils 57 (by omega) (by omega) (by omega)
  have c60 := h.nils 60 (by omega) (by omega) (by omega)
  have c63 := h.nils 63 (by omega) (by omega) (by omega)
  clear h
  go_enter Try.func77, Try.ntmps77
  go_wp2
  go_loopw [3] (fun t wx => t = .int .i64 0 ∧ wx = w) (fun _ _ => 0)
  case atStart => exact ⟨rfl, rfl⟩
  case round =>
    obtain ⟨rfl, hw⟩ := hrel
    subst hw
    go_wp2_with fail
    go_loopw [7] (fun t wx => t = .int .i64 0 ∧ wx = wr) (fun _ _ => 0)
    case atStart => exact ⟨rfl, rfl⟩
    case round =>
      obtain ⟨rfl, hw⟩ := hrel
      subst hw
      go_wp2_with fail
      go_loopw [11] (fun t wx => t = .int .i64 0 ∧ wx = wr) (fun _ _ => 0)
      case atStart => exact ⟨rfl, rfl⟩
      case round =>
        obtain ⟨rfl, hw⟩ := hrel
        subst hw
        go_wp2_with fail
        go_loopw [15] (fun t wx => t = .int .i64 0 ∧ wx = wr) (fun _ _ => 0)
        case atStart => exact ⟨rfl, rfl⟩
        case round =>
          obtain ⟨rfl, hw⟩ := hrel
          subst hw
          go_wp2_with fail
          go_ret
          exact ⟨rfl, rfl⟩

set_option maxRecDepth 100000 in
set_option maxHeartbeats 4000000 in
theorem hold78 (NB : Nat) (w : World) (h : BookNil w NB) : Calls Try.prog 78 #[.pointer (some ⟨NB, 0, none⟩)] w fun e w' => e = .returned (.bool true) ∧ w' = w := by
  have c66 := h.nils 66 (by omega) (by omega) (by omega)
  clear h
  go_enter Try.func78, Try.ntmps78
  go_wp2
  go_loopw [3] (fun t wx => t = .int .i64 0 ∧ wx = w) (fun _ _ => 0)
  case atStart => exact ⟨rfl, rfl⟩
  case round =>
    obtain ⟨rfl, hw⟩ := hrel
    subst hw
    go_wp2_with fail
    go_ret
    exact ⟨rfl, rfl⟩

set_option maxRecDepth 100000 in
set_option maxHeartbeats 4000000 in
theorem grow80 (NB : Nat) (w : World) (h : BookNil w NB) : Calls Try.prog 80 #[.pointer (some ⟨NB, 0, none⟩)] w fun e w' => e = .returned (.tuple #[]) ∧ w' = w := by
  have c0 := h.nils 3 (by omega) (by omega) (by omega)
  have c2 := h.ats 5 (by omega) (by omega) (by omega)
  have f2 := h.fz 5 (by omega)
  clear h
  go_enter Try.func80, Try.ntmps80
  go_wp2
  go_loopw [3] (fun t wx => t = .int .i64 0 ∧ wx = w) (fun _ _ => 0)
  case atStart => exact ⟨rfl, rfl⟩
  case round =>
    obtain ⟨rfl, hw⟩ := hrel
    subst hw
    go_wp2_with fail
    go_end0
    exact ⟨rfl, setCell_same _ _ _ _ c2⟩

set_option maxRecDepth 100000 in
set_option maxHeartbeats 4000000 in
theorem grow81 (NB : Nat) (w : World) (h : BookNil w NB) : Calls Try.prog 81 #[.pointer (some ⟨NB, 0, none⟩)] w fun e w' => e = .returned (.tuple #[]) ∧ w' = w := by
  have c0 := h.nils 6 (by omega) (by omega) (by omega)
  have c2 := h.ats 8 (by omega) (by omega) (by omega)
  have f2 := h.fz 8 (by omega)
  clear h
  go_enter Try.func81, Try.ntmps81
  go_wp2
  go_loopw [3] (fun t wx => t = .int .i64 0 ∧ wx = w) (fun _ _ => 0)
  case atStart => exact ⟨rfl, rfl⟩
  case round =>
    obtain ⟨rfl, hw⟩ := hrel
    subst hw
    go_wp2_with fail
    go_end0
    exact ⟨rfl, setCell_same _ _ _ _ c2⟩

set_option maxRecDepth 100000 in
set_option maxHeartbeats 4000000 in
theorem grow82 (NB : Nat) (w : World) (h : BookNil w NB) : Calls Try.prog 82 #[.pointer (some ⟨NB, 0, none⟩)] w fun e w' => e = .returned (.tuple #[]) ∧ w' = w := by
  have c0 := h.nils 9 (by omega) (by omega) (by omega)
  have c2 := h.ats 11 (by omega) (by omega) (by omega)
  have f2 := h.fz 11 (by omega)
  clear h
  go_enter Try.func82, Try.ntmps82
  go_wp2
  go_loopw [3] (fun t wx => t = .int .i64 0 ∧ wx = w) (fun _ _ => 0)
  case atStart => exact ⟨rfl, rfl⟩
  case round =>
    obtain ⟨rfl, hw⟩ := hrel
    subst hw
    go_wp2_with fail
    go_end0
    exact ⟨rfl, setCell_same _ _ _ _ c2⟩

set_option maxRecDepth 100000 in
set_option maxHeartbeats 4000000 in
theorem grow83 (NB : Nat) (w : World) (h : BookNil w NB) : Calls Try.prog 83 #[.pointer (some ⟨NB, 0, none⟩)] w fun e w' => e = .returned (.tuple #[]) ∧ w' = w := by
  have c0 := h.nils 12 (by omega) (by omega) (by omega)
  have c2 := h.ats 14 (by omega) (by omega) (by omega)
  have f2 := h.fz 14 (by omega)
  clear h
  go_enter Try.func83, Try.ntmps83
  go_wp2
  go_loopw [3] (fun t wx => t = .int .i64 0 ∧ wx = w) (fun _ _ => 0)
  case atStart => exact ⟨rfl, rfl⟩
  case round =>
    obtain ⟨rfl, hw⟩ := hrel
    subst hw
    go_wp2_with fail
    go_end0
    exact ⟨rfl, setCell_same _ _ _ _ c2⟩

set_option maxRecDepth 100000 in
set_option maxHeartbeats 4000000 in
theorem grow84 (NB : Nat) (w : World) (h : BookNil w NB) : Calls Try.prog 84 #[.pointer (some ⟨NB, 0, none⟩)] w fun e w' => e = .returned (.tuple #[]) ∧ w' = w := by
  have c0 := h.nils 15 (by omega) (by omega) (by omega)
  have c2 := h.ats 17 (by omega) (by omega) (by omega)
  have f2 := h.fz 17 (by omega)
  clear h
  go_enter Try.func84, Try.ntmps84
  go_wp2
  go_loopw [3] (fun t wx => t = .int .i64 0 ∧ wx = w) (fun _ _ => 0)
  case atStart => exact ⟨rfl, rfl⟩
  case round =>
    obtain ⟨rfl, hw⟩ := hrel
    subst hw
    go_wp2_with fail
    go_end0
    exact ⟨rfl, setCell_same _ _ _ _ c2⟩

set_option maxRecDepth 100000 in
set_option maxHeartbeats 4000000 in
theorem grow85 (NB : Nat) (w : World) (h : BookNil w NB) : Calls Try.prog 85 #[.pointer (some ⟨NB, 0, none⟩)] w fun e w' => e = .returned (.tuple #[]) ∧ w' = w := by
  have c0 := h.nils 18 (by omega) (by omega) (by omega)
  have c2 := h.ats 20 (by omega) (by omega) (by omega)
  have f2 := h.fz 20 (by omega)
  clear h
  go_enter Try.func85, Try.ntmps85
  go_wp2
  go_loopw [3] (fun t wx => t = .int .i64 0 ∧ wx = w) (fun _ _ => 0)
  case atStart => exact ⟨rfl, rfl⟩
  case round =>
    obtain ⟨rfl, hw⟩ := hrel
    subst hw
    go_wp2_with fail
    go_end0
    exact ⟨rfl, setCell_same _ _ _ _ c2⟩

set_option maxRecDepth 100000 in
set_option maxHeartbeats 4000000 in
theorem grow86 (NB : Nat) (w : World) (h : BookNil w NB) : Calls Try.prog 86 #[.pointer (some ⟨NB, 0, none⟩)] w fun e w' => e = .returned (.tuple #[]) ∧ w' = w := by
  have c0 := h.nils 21 (by omega) (by omega) (by omega)
  have c2 := h.ats 23 (by omega) (by omega) (by omega)
  have f2 := h.fz 23 (by omega)
  clear h
  go_enter Try.func86, Try.ntmps86
  go_wp2
  go_loopw [3] (fun t wx => t = .int .i64 0 ∧ wx = w) (fun _ _ => 0)
  case atStart => exact ⟨rfl, rfl⟩
  case round =>
    obtain ⟨rfl, hw⟩ := hrel
    subst hw
    go_wp2_with fail
    go_end0
    exact ⟨rfl, setCell_same _ _ _ _ c2⟩

set_option maxRecDepth 100000 in
set_option maxHeartbeats 4000000 in
theorem grow87 (NB : Nat) (w : World) (h : BookNil w NB) : Calls Try.prog 87 #[.pointer (some ⟨NB, 0, none⟩)] w fun e w' => e = .returned (.tuple #[]) ∧ w' = w := by
  have c0 := h.nils 24 (by omega) (by omega) (by omega)
  have c2 := h.ats 26 (by omega) (by omega) (by omega)
  have f2 := h.fz 26 (by omega)
  clear h
  go_enter Try.func87, Try.ntmps87
  go_wp2
  go_loopw [3] (fun t wx => t = .int .i64 0 ∧ wx = w) (fun _ _ => 0)
  case atStart => exact ⟨rfl, rfl⟩
  case round =>
    obtain ⟨rfl, hw⟩ := hrel
    subst hw
    go_wp2_with fail
    go_end0
    exact ⟨rfl, setCell_same _ _ _ _ c2⟩

set_option maxRecDepth 100000 in
set_option maxHeartbeats 4000000 in
theorem grow88 (NB : Nat) (w : World) (h : BookNil w NB) : Calls Try.prog 88 #[.pointer (some ⟨NB, 0, none⟩)] w fun e w' => e = .returned (.tuple #[]) ∧ w' = w := by
  have c0 := h.nils 27 (by omega) (by omega) (by omega)
  have c2 := h.ats 29 (by omega) (by omega) (by omega)
  have f2 := h.fz 29 (by omega)
  clear h
  go_enter Try.func88, Try.ntmps88
  go_wp2
  go_loopw [3] (fun t wx => t = .int .i64 0 ∧ wx = w) (fun _ _ => 0)
  case atStart => exact ⟨rfl, rfl⟩
  case round =>
    obtain ⟨rfl, hw⟩ := hrel
    subst hw
    go_wp2_with fail
    go_end0
    exact ⟨rfl, setCell_same _ _ _ _ c2⟩

set_option maxRecDepth 100000 in
set_option maxHeartbeats 4000000 in
theorem grow89 (NB : Nat) (w : World) (h : BookNil w NB) : Calls Try.prog 89 #[.pointer (some ⟨NB, 0, none⟩)] w fun e w' => e = .returned (.tuple #[]) ∧ w' = w := by
  have c0 := h.nils 30 (by omega) (by omega) (by omega)
  have c2 := h.ats 32 (by omega) (by omega) (by omega)
  have f2 := h.fz 32 (by omega)
  clear h
  go_enter Try.func89, Try.ntmps89
  go_wp2
  go_loopw [3] (fun t wx => t = .int .i64 0 ∧ wx = w) (fun _ _ => 0)
  case atStart => exact ⟨rfl, rfl⟩
  case round =>
    obtain ⟨rfl, hw⟩ := hrel
    subst hw
    go_wp2_with fail
    go_end0
    exact ⟨rfl, setCell_same _ _ _ _ c2⟩

set_option maxRecDepth 100000 in
set_option maxHeartbeats 4000000 in
theorem grow90 (NB : Nat) (w : World) (h : BookNil w NB) : Calls Try.prog 90 #[.pointer (some ⟨NB, 0, none⟩)] w fun e w' => e = .returned (.tuple #[]) ∧ w' = w := by
  have c0 := h.nils 33 (by omega) (by omega) (by omega)
  have c2 := h.ats 35 (by omega) (by omega) (by omega)
  have f2 := h.fz 35 (by omega)
  clear h
  go_enter Try.func90, Try.ntmps90
  go_wp2
  go_loopw [3] (fun t wx => t = .int .i64 0 ∧ wx = w) (fun _ _ => 0)
  case atStart => exact ⟨rfl, rfl⟩
  case round =>
    obtain ⟨rfl, hw⟩ := hrel
    subst hw
    go_wp2_with fail
    go_end0
    exact ⟨rfl, setCell_same _ _ _ _ c2⟩

set_option maxRecDepth 100000 in
set_option maxHeartbeats 4000000 in
theorem grow91 (NB : Nat) (w : World) (h : BookNil w NB) : Calls Try.prog 91 #[.pointer (some ⟨NB, 0, none⟩)] w fun e w' => e = .returned (.tuple #[]) ∧ w' = w := by
  have c0 := h.nils 36 (by omega) (by omega) (by omega)
  have c2 := h.ats 38 (by omega) (by omega) (by omega)
  have f2 := h.fz 38 (by omega)
  clear h
  go_enter Try.func91, Try.ntmps91
  go_wp2
  go_loopw [3] (fun t wx => t = .int .i64 0 ∧ wx = w) (fun _ _ => 0)
  case atStart => exact ⟨rfl, rfl⟩
  case round =>
    obtain ⟨rfl, hw⟩ := hrel
    subst hw
    go_wp2_with fail
    go_end0
    exact ⟨rfl, setCell_same _ _ _ _ c2⟩

set_option maxRecDepth 100000 in
set_option maxHeartbeats 4000000 in
theorem grow92 (NB : Nat) (w : World) (h : BookNil w NB) : Calls Try.prog 92 #[.pointer (some ⟨NB, 0, none⟩)] w fun e w' => e = .returned (.tuple #[]) ∧ w' = w := by
  have c0 := h.nils 39 (by omega) (by omega) (by omega)
  have c2 := h.ats 41 (by omega) (by omega) (by omega)
  have f2 := h.fz 41 (by omega)
  clear h
  go_enter Try.func92, Try.ntmps92
  go_wp2
  go_loopw [3] (fun t wx => t = .int .i64 0 ∧ wx = w) (fun _ _ => 0)
  case atStart => exact ⟨rfl, rfl⟩
  case round =>
    obtain ⟨rfl, hw⟩ := hrel
    subst hw
    go_wp2_with fail
    go_end0
    exact ⟨rfl, setCell_same _ _ _ _ c2⟩

set_option maxRecDepth 100000 in
set_option maxHeartbeats 4000000 in
theorem grow93 (NB : Nat) (w : World) (h : BookNil w NB) : Calls Try.prog 93 #[.pointer (some ⟨NB, 0, none⟩)] w fun e w' => e = .returned (.tuple #[]) ∧ w' = w := by
  have c0 := h.nils 42 (by omega) (by omega) (by omega)
  have c2 := h.ats 44 (by omega) (by omega) (by omega)
  have f2 := h.fz 44 (by omega)
  clear h
  go_enter Try.func93, Try.ntmps93
  go_wp2
  go_loopw [3] (fun t wx => t = .int .i64 0 ∧ wx = w) (fun _ _ => 0)
  case atStart => exact ⟨rfl, rfl⟩
  case round =>
    obtain ⟨rfl, hw⟩ := hrel
    subst hw
    go_wp2_with fail
    go_end0
    exact ⟨rfl, setCell_same _ _ _ _ c2⟩

set_option maxRecDepth 100000 in
set_option maxHeartbeats 4000000 in
theorem grow94 (NB : Nat) (w : World) (h : BookNil w NB) : Calls Try.prog 94 #[.pointer (some ⟨NB, 0, none⟩)] w fun e w' => e = .returned (.tuple #[]) ∧ w' = w := by
  have c0 := h.nils 45 (by omega) (by omega) (by omega)
  have c2 := h.ats 47 (by omega) (by omega) (by omega)
  have f2 := h.fz 47 (by omega)
  clear h
  go_enter Try.func94, Try.ntmps94
  go_wp2
  go_loopw [3] (fun t wx => t = .int .i64 0 ∧ wx = w) (fun _ _ => 0)
  case atStart => exact ⟨rfl, rfl⟩
  case round =>
    obtain ⟨rfl, hw⟩ := hrel
    subst hw
    go_wp2_with fail
    go_end0
    exact ⟨rfl, setCell_same _ _ _ _ c2⟩

set_option maxRecDepth 100000 in
set_option maxHeartbeats 4000000 in
theorem grow95 (NB : Nat) (w : World) (h : BookNil w NB) : Calls Try.prog 95 #[.pointer (some ⟨NB, 0, none⟩)] w fun e w' => e = .returned (.tuple #[]) ∧ w' = w := by
  have c0 := h.nils 48 (by omega) (by omega) (by omega)
  have c2 := h.ats 50 (by omega) (by omega) (by omega)
  have f2 := h.fz 50 (by omega)
  clear h
  go_enter Try.func95, Try.ntmps95
  go_wp2
  go_loopw [3] (fun t wx => t = .int .i64 0 ∧ wx = w) (fun _ _ => 0)
  case atStart => exact ⟨rfl, rfl⟩
  case round =>
    obtain ⟨rfl, hw⟩ := hrel
    subst hw
    go_wp2_with fail
    go_end0
    exact ⟨rfl, setCell_same _ _ _ _ c2⟩

set_option maxRecDepth 100000 in
set_option maxHeartbeats 4000000 in
theorem grow96 (NB : Nat) (w : World) (h : BookNil w NB) : Calls Try.prog 96 #[.pointer (some ⟨NB, 0, none⟩)] w fun e w' => e = .returned (.tuple #[]) ∧ w' = w := by
  have c0 := h.nils 51 (by omega) (by omega) (by omega)
  have c2 := h.ats 53 (by omega) (by omega) (by omega)
  have f2 := h.fz 53 (by omega)
  clear h
  go_enter Try.func96, Try.ntmps96
  go_wp2
  go_loopw [3] (fun t wx => t = .int .i64 0 ∧ wx = w) (fun _ _ => 0)
  case atStart => exact ⟨rfl, rfl⟩
  case round =>
    obtain ⟨rfl, hw⟩ := hrel
    subst hw
    go_wp2_with fail
    go_end0
    exact ⟨rfl, setCell_same _ _ _ _ c2⟩

set_option maxRecDepth 100000 in
set_option maxHeartbeats 4000000 in
theorem grow97 (NB : Nat) (w : World) (h : BookNil w NB) : Calls Try.prog 97 #[.pointer (some ⟨NB, 0, none⟩)] w fun e w' => e = .returned (.tuple #[]) ∧ w' = w := by
  have c0 := h.nils 54 (by omega) (by omega) (by omega)
  have c2 := h.ats 56 (by omega) (by omega) (by omega)
  have f2 := h.fz 56 (by omega)
  clear h
  go_enter Try.func97, Try.ntmps97
  go_wp2
  go_loopw [3] (fun t wx => t = .int .i64 0 ∧ wx = w) (fun _ _ => 0)
  case atStart => exact ⟨rfl, rfl⟩
  case round =>
    obtain ⟨rfl, hw⟩ := hrel
    subst hw
    go_wp2_with fail
    go_end0
    exact ⟨rfl, setCell_same _ _ _ _ c2⟩

set_option maxRecDepth 100000 in
set_option maxHeartbeats 4000000 in
theorem grow98 (NB : Nat) (w : World) (h : BookNil w NB) : Calls Try.prog 98 #[.pointer (some ⟨NB, 0, none⟩)] w fun e w' => e = .returned (.tuple #[]) ∧ w' = w := by
  have c0 := h.nils 57 (by omega) (by omega) (by omega)
  have c2 := h.ats 59 (by omega) (by omega) (by omega)
  have f2 := h.fz 59 (by omega)
  clear h
  go_enter Try.func98, Try.ntmps98
  go_wp2
  go_loopw [3] (fun t wx => t = .int .i64 0 ∧ wx = w) (fun _ _ => 0)
  case atStart => exact ⟨rfl, rfl⟩
  case round =>
    obtain ⟨rfl, hw⟩ := hrel
    subst hw
    go_wp2_with fail
    go_end0
    exact ⟨rfl, setCell_same _ _ _ _ c2⟩

set_option maxRecDepth 100000 in
set_option maxHeartbeats 4000000 in
theorem grow99 (NB : Nat) (w : World) (h : BookNil w NB) : Calls Try.prog 99 #[.pointer (some ⟨NB, 0, none⟩)] w fun e w' => e = .returned (.tuple #[]) ∧ w' = w := by
  have c0 := h.nils 60 (by omega) (by omega) (by omega)
  have c2 := h.ats 62 (by omega) (by omega) (by omega)
  have f2 := h.fz 62 (by omega)
  clear h
  go_enter Try.func99, Try.ntmps99
  go_wp2
  go_loopw [3] (fun t wx => t = .int .i64 0 ∧ wx = w) (fun _ _ => 0)
  case atStart => exact ⟨rfl, rfl⟩
  case round =>
    obtain ⟨rfl, hw⟩ := hrel
    subst hw
    go_wp2_with fail
    go_end0
    exact ⟨rfl, setCell_same _ _ _ _ c2⟩

set_option maxRecDepth 100000 in
set_option maxHeartbeats 4000000 in
theorem grow100 (NB : Nat) (w : World) (h : BookNil w NB) : Calls Try.prog 100 #[.pointer (some ⟨NB, 0, none⟩)] w fun e w' => e = .returned (.tuple #[]) ∧ w' = w := by
  have c0 := h.nils 63 (by omega) (by omega) (by omega)
  have c2 := h.ats 65 (by omega) (by omega) (by omega)
  have f2 := h.fz 65 (by omega)
  clear h
  go_enter Try.func100, Try.ntmps100
  go_wp2
  go_loopw [3] (fun t wx => t = .int .i64 0 ∧ wx = w) (fun _ _ => 0)
  case atStart => exact ⟨rfl, rfl⟩
  case round =>
    obtain ⟨rfl, hw⟩ := hrel
    subst hw
    go_wp2_with fail
    go_end0
    exact ⟨rfl, setCell_same _ _ _ _ c2⟩

set_option maxRecDepth 100000 in
set_option maxHeartbeats 4000000 in
theorem grow101 (NB : Nat) (w : World) (h : BookNil w NB) : Calls Try.prog 101 #[.pointer (some ⟨NB, 0, none⟩)] w fun e w' => e = .returned (.tuple #[]) ∧ w' = w := by
  have c0 := h.nils 66 (by omega) (by omega) (by omega)
  have c2 := h.ats 68 (by omega) (by omega) (by omega)
  have f2 := h.fz 68 (by omega)
  clear h
  go_enter Try.func101, Try.ntmps101
  go_wp2
  go_loopw [3] (fun t wx => t = .int .i64 0 ∧ wx = w) (fun _ _ => 0)
  case atStart => exact ⟨rfl, rfl⟩
  case round =>
    obtain ⟨rfl, hw⟩ := hrel
    subst hw
    go_wp2_with fail
    go_end0
    exact ⟨rfl, setCell_same _ _ _ _ c2⟩

end Go.Proofs.Ytpiiagjfimdflaa

/- The document's own: Key, OfKey, Up, Down, Distance. -/
import Derived.Test.YtmkploknoohliaaDoorFT
namespace Go.Proofs.YtmkploknoohliaaDoor
open Go.RowKit
set_option linter.unusedVariables false
set_option linter.unusedSimpArgs false

/-- How far two are apart. -/
def dist64 (a b : Nat) : Nat := if key64 a < key64 b then key64 b - key64 a else key64 a - key64 b
/-- How far two are apart. -/
def dist32 (a b : Nat) : Nat := if key32 a < key32 b then key32 b - key32 a else key32 a - key32 b
end Go.Proofs.YtmkploknoohliaaDoor

/- Own texts, put together: Zb. -/
import Derived.Test.YtkgnlobakicnjaaDoorQ5
/- The reference's size. -/
namespace Go.Proofs.YtkgnlobakicnjaaDoor
open Go.RowKit
theorem box_cell {w w' : World} (hb : Below w.heap.size w w') {p : Addr} {x : Value} (h : w.cell? p = some x) : w'.cell? p = some x := by
 rw [hb.cell (World.block_lt_of_cell? _ _ h)]; exact h
end Go.Proofs.YtkgnlobakicnjaaDoor

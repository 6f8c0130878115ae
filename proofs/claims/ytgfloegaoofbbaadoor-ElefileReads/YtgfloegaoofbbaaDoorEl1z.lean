import Derived.Test.YtgfloegaoofbbaaDoorEl1b
import Derived.Test.YtgfloegaoofbbaaDoorEl1c
/- reads11_law, put together. (capt.py) -/
/- The law ElefileReads. -/
namespace Go.Proofs.YtgfloegaoofbbaaDoor
set_option maxRecDepth 100000
open Go.RowKit Go.Shelf Go.Lib
attribute [local go_sem] run_store_float
theorem reads11_law {p : Pm} (hp : p.Ok) (t : Bs) (w : World) (ht : t.length ≤ 9223372036854775807) (hT : Tab w)
    (hRef : ∀ W : World, t.length ≤ 20000 → Calls Tryd.prog 4 #[sv t] W fun e w' => R11 p W w' t e) :
    Calls Tryd.prog 3 #[sv t] w fun e w' => e = .returned (.bool true) ∧ Below w.heap.size w w' := (el10_c.imp (Cap.mk (el1a_c.imp (Cap.mk (el1b_t)) (Cap.mk (el1c_t))))) hp t w ht hT hRef
end Go.Proofs.YtgfloegaoofbbaaDoor

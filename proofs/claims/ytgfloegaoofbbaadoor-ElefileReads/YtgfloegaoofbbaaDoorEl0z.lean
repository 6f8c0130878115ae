import Derived.Test.YtgfloegaoofbbaaDoorEl0a
import Derived.Test.YtgfloegaoofbbaaDoorEl0e
import Derived.Test.YtgfloegaoofbbaaDoorEl0g
import Derived.Test.YtgfloegaoofbbaaDoorEl0j
import Derived.Test.YtgfloegaoofbbaaDoorEl0l
import Derived.Test.YtgfloegaoofbbaaDoorEl0m
/- refRead11_any, put together. (capt.py) -/
/- The document's side of layer 11: Read. (gen_ekb.py) -/
namespace Go.Proofs.YtgfloegaoofbbaaDoor
set_option maxRecDepth 100000
open Go.RowKit Go.Shelf Go.Lib
attribute [local go_sem] run_store_str run_store_float
theorem refRead11_any {p : Pm} (hp : p.Ok) (s : ByteArray) (t : Bs) (w : World) (ht : s.data.toList = t) (hl : t.length ≤ 16777216) :
    Calls Tryd.prog 4 #[.string s] w fun e w' => R11 p w w' t e := (el00_c.imp (Cap.mk (el0a_t)) (Cap.mk (el0b_c.imp (Cap.mk (el0c_c.imp (Cap.mk (el0d_c.imp (Cap.mk (el0e_t)) (Cap.mk (el0f_c.imp (Cap.mk (el0g_t)) (Cap.mk (el0h_c.imp (Cap.mk (el0i_c.imp (Cap.mk (el0j_t)) (Cap.mk (el0k_c.imp (Cap.mk (el0l_t)) (Cap.mk (el0m_t))))))))))))))))) hp s t w ht hl
end Go.Proofs.YtgfloegaoofbbaaDoor

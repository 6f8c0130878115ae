/- Own texts, put together: Ef Eg Eu Ev Eh. -/
import Derived.Test.YtodmnpgnonhbiaaDoorQ9
import Derived.Test.YtodmnpgnonhbiaaDoorQ11
import Derived.Below
namespace Go.Proofs.YtodmnpgnonhbiaaDoor
/- What is refused. -/
section
open Go.RowKit
end

/- The steps of sums, halves and products: each is the float that the language has of it. -/
section
open Go.RowKit
end

/- A float's halves, and two floats multiplied (Veltkamp, Dekker), in plain numbers. -/
section
end

/- Two floats multiplied: what is rounded off is told exactly (Dekker), in plain numbers. -/
section
theorem RN.neg {q x : Rat} (h : RN q x) : RN (-q) (-x) := by obtain ⟨T, k, R⟩ := h; exact ⟨T, _, R.neg⟩
end

/- awake: the examples. -/
section
open Go.RowKit
end
end Go.Proofs.YtodmnpgnonhbiaaDoor

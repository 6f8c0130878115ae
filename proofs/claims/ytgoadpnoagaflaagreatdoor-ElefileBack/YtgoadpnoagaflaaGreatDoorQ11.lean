/- Own texts, put together: Eb Ec. -/
import Derived.Test.YtgoadpnoagaflaaGreatDoorQ1
import Derived.Test.YtgoadpnoagaflaaGreatDoorQ6
import Derived.WalkKit
import Derived.WalkSpells
import Derived.WalkLawsBesides
import Derived.Laws.FloatArith
namespace Go.Proofs.YtgoadpnoagaflaaGreatDoor
/- Which floats are tame, which are safe: the program's. -/
section
open Go.RowKit
def SafeW (r : Nat) : Prop := r = 0 ∨ (2580562586483294208 ≤ r ∧ r ≤ 6633802251116740608)
instance (r : Nat) : Decidable (SafeW r) := by unfold SafeW; exact inferInstance
end

/- Which floats are tame, which are safe: the document's. -/
section
open Go.RowKit
end
end Go.Proofs.YtgoadpnoagaflaaGreatDoor

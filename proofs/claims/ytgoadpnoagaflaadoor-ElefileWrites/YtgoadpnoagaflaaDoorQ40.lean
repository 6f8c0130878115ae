/- Own texts, put together: Efi. -/
import Derived.Test.YtgoadpnoagaflaaDoorQ15
import Derived.Test.YtgoadpnoagaflaaDoorQ39
/- Package elefile: filled. -/
namespace Go.Proofs.YtgoadpnoagaflaaDoor
set_option maxRecDepth 100000
open Go.RowKit Go.Shelf Go.Lib
attribute [local go_sem] run_store_str
structure Lf (W : World) (v : Value) (ps : List Lt) : Prop where
 form : ∃ a c, v = .slice a ps.length c ∧ ps.length ≤ c ∧ c ≤ 9223372036854775807 ∧ (ps = [] ∨ ∃ g off, a = some ⟨g, off, none⟩ ∧ g < W.heap.size ∧ ∀ k p, ps[k]? = some p → W.cell? ⟨g, off + k * 2, none⟩ = some (.int .i64 (p.1 : Nat)) ∧ W.cell? ⟨g, off + k * 2 + 1, none⟩ = some p.2.2)
 sub : ∀ p ∈ ps, Sl W p.2.2 p.2.1 ∧ Bk W.heap.size p.2.2
end Go.Proofs.YtgoadpnoagaflaaDoor

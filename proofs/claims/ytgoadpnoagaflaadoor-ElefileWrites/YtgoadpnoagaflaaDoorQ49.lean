/- Own texts, put together: Egi. -/
import Derived.Test.YtgoadpnoagaflaaDoorQ43
import Derived.Test.YtgoadpnoagaflaaDoorQ47
/- The laws of layer 11: what is written again is the same; Read, its answers by name. -/
namespace Go.Proofs.YtgoadpnoagaflaaDoor
set_option maxRecDepth 100000
open Go.RowKit Go.Shelf Go.Lib
def Rok (r : Rw) : Prop := (∀ n ∈ r.t, InR n) ∧ ∀ x ∈ r.a, x < 18446744073709551616
theorem Rv.rok {W : World} {v : Value} {rs : List Rt} (h : Rv W v rs) : ∀ r ∈ rs.map (·.1), Rok r := fun r hr => by
 obtain ⟨q, hq, rfl⟩ := List.mem_map.1 hr
 exact ⟨(h.sub q hq).1.rng, (h.sub q hq).2.word⟩
theorem rok_of {rs : List Rt} {l : List Rw} (h : rs.map (·.1) = l) (hl : ∀ r ∈ l, Rok r) : ∀ q ∈ rs, (∀ n ∈ q.1.t, InR n) ∧ ∀ x ∈ q.1.a, x < 18446744073709551616 := fun q hq => hl q.1 (by rw [← h]; exact List.mem_map.2 ⟨q, hq, rfl⟩)
theorem sz_of {rs : List Rt} {l : List Rw} {B : Nat} (h : rs.map (·.1) = l) (hl : ∀ r ∈ l, r.t.length ≤ B ∧ r.a.length ≤ B) : ∀ q ∈ rs, q.1.t.length ≤ B ∧ q.1.a.length ≤ B := fun q hq => hl q.1 (by rw [← h]; exact List.mem_map.2 ⟨q, hq, rfl⟩)
theorem len_of {rs : List Rt} {l : List Rw} (h : rs.map (·.1) = l) : rs.length = l.length := by rw [← h]; simp
end Go.Proofs.YtgoadpnoagaflaaDoor

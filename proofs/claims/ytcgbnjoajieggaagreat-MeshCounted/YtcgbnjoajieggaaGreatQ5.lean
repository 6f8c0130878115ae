/- Own texts, put together: Za Zb. -/
import Derived.Test.YtcgbnjoajieggaaGreatQ1
import Derived.Below
namespace Go.Proofs.YtcgbnjoajieggaaGreat
/- The reference's digit. -/
section
open Go.RowKit
def IntRow (w : World) (g : Nat) : Prop := ∃ cur fr, w.heap[g]? = some (.cells cur 2 fr)
theorem IntRow.lt {w : World} {g : Nat} (h : IntRow w g) : g < w.heap.size := by
 obtain ⟨cur, fr, h⟩ := h
 exact (Array.getElem?_eq_some_iff.1 h).1
theorem IntRow.block {w w' : World} {g : Nat} (h : IntRow w g) (he : w'.heap[g]? = w.heap[g]?) : IntRow w' g := by
 obtain ⟨cur, fr, h⟩ := h
 exact ⟨cur, fr, by rw [he]; exact h⟩
theorem IntRow.alloc {w : World} {g : Nat} (h : IntRow w g) (o : Obj) : IntRow (w.alloc o) g := h.block (Below.heap_alloc w o g h.lt)
structure Dig (w : World) (v : Value) (S : Int) (ds : List Nat) (E : Int) : Prop where
 form : ∃ a c, v = .agg #[.int .i64 S, .slice a ds.length c, .int .i64 E] ∧ ds.length ≤ c ∧ (ds = [] ∨ ∃ g off, a = some ⟨g, off, none⟩ ∧ (∀ k, k < ds.length → w.cell? ⟨g, off + k, none⟩ = some (.int .i64 (ds.getD k 0 : Nat))) ∧ IntRow w g)
 small : ∀ d ∈ ds, d < 16777216
 len : ds.length ≤ 1000000
 e1 : -1000000 ≤ E
 e2 : E ≤ 1000000
theorem Dig.later {w w' : World} {v : Value} {S E : Int} {ds : List Nat} (h : Dig w v S ds E) (hb : Below w.heap.size w w') : Dig w' v S ds E := by
 obtain ⟨⟨a, c, hv, hcap, hf⟩, h2, h3, h4, h5⟩ := h
 refine ⟨⟨a, c, hv, hcap, ?_⟩, h2, h3, h4, h5⟩
 rcases hf with hf | ⟨g, off, ha, hf, hr⟩
 · exact Or.inl hf
 · refine Or.inr ⟨g, off, ha, fun k hk => ?_, hr.block (hb.block g hr.lt)⟩
   have := hf k hk
   rw [hb.cell (World.block_lt_of_cell? _ _ this)]; exact this
end

/- The reference's size. -/
section
open Go.RowKit
theorem box_cell {w w' : World} (hb : Below w.heap.size w w') {p : Addr} {x : Value} (h : w.cell? p = some x) : w'.cell? p = some x := by
 rw [hb.cell (World.block_lt_of_cell? _ _ h)]; exact h
end
end Go.Proofs.YtcgbnjoajieggaaGreat

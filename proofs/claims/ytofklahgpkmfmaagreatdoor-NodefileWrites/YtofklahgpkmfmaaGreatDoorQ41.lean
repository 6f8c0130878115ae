/- Own texts, put together: Qza. -/
import Derived.Test.YtofklahgpkmfmaaGreatDoorQ27
import Derived.Test.YtofklahgpkmfmaaGreatDoorQ38
/- The laws of layer 10: files held against each other. -/
namespace Go.Proofs.YtofklahgpkmfmaaGreatDoor
set_option maxRecDepth 100000
open Go.RowKit Go.Shelf Go.Lib
def FE (x y : Nat) : Prop := FloatKind.f64.format.order x y = some .eq
theorem FE.of {x y : Nat} (hx : Fin64 x) (hy : Fin64 y) (h : fval x = fval y) : FE x y := by
 unfold FE
 rw [order_val hx hy, if_neg (by rw [h]; exact Rat.lt_irrefl), if_pos h]
theorem nv_cells {W : World} {v : Value} {ns : List Nt} (h : Nv W v ns) : ∃ a c, v = .slice a ns.length c ∧ ∀ (i : Nat) (q : Nt), ns[i]? = some q → ∃ g off, a = some ⟨g, off, none⟩ ∧ g < W.heap.size ∧ W.cell? ⟨g, off + i * 4, none⟩ = some (.float .f64 q.1.x) ∧ W.cell? ⟨g, off + i * 4 + 1, none⟩ = some (.float .f64 q.1.y) ∧ W.cell? ⟨g, off + i * 4 + 2, none⟩ = some q.2 ∧ W.cell? ⟨g, off + i * 4 + 3, none⟩ = some (.int .i64 q.1.m) := by
 obtain ⟨a, c, rfl, _, _, h3⟩ := h.form
 refine ⟨a, c, rfl, fun i q hq => ?_⟩
 obtain ⟨g, off, rfl, hg, hc⟩ := h3.resolve_left (fun e => by rw [e] at hq; simp at hq)
 exact ⟨g, off, rfl, hg, hc i q hq⟩
end Go.Proofs.YtofklahgpkmfmaaGreatDoor

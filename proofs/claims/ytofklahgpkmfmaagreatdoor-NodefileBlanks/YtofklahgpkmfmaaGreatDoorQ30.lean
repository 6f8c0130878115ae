/- Own texts, put together: Oe Pa Pb Pc Pd. -/
import Derived.Test.YtofklahgpkmfmaaGreatDoorQ25
namespace Go.Proofs.YtofklahgpkmfmaaGreatDoor
/- Package orient: Fast. -/
section
open Go.RowKit Go.Shelf
attribute [local go_sem ↓] Go.wp_at_zero Go.wp_at_succ
attribute [local go_sem] run_store_float
abbrev pv (x y : Nat) : Value := .agg #[.float .f64 x, .float .f64 y]
def P3 (ax ay bx by' cx cy : Nat) : Prop := Pt ax ay ∧ Pt bx by' ∧ Pt cx cy
def W6 (ax ay bx by' cx cy : Nat) : Prop := (ax < 18446744073709551616 ∧ ay < 18446744073709551616) ∧ (bx < 18446744073709551616 ∧ by' < 18446744073709551616) ∧ cx < 18446744073709551616 ∧ cy < 18446744073709551616
structure B3 (w W : World) (ax ay bx by' cx cy : Nat) : Prop where
 a0 : W.cell? ⟨w.heap.size, 0, none⟩ = some (.float .f64 ax)
 a1 : W.cell? ⟨w.heap.size, 1, none⟩ = some (.float .f64 ay)
 b0 : W.cell? ⟨w.heap.size + 1, 0, none⟩ = some (.float .f64 bx)
 b1 : W.cell? ⟨w.heap.size + 1, 1, none⟩ = some (.float .f64 by')
 c0 : W.cell? ⟨w.heap.size + 1 + 1, 0, none⟩ = some (.float .f64 cx)
 c1 : W.cell? ⟨w.heap.size + 1 + 1, 1, none⟩ = some (.float .f64 cy)
 bel : Below w.heap.size w W
theorem B3.later {w W W' : World} {ax ay bx by' cx cy : Nat} (h : B3 w W ax ay bx by' cx cy) (hb : Below W.heap.size W W') : B3 w W' ax ay bx by' cx cy :=
 ⟨box_cell hb h.a0, box_cell hb h.a1, box_cell hb h.b0, box_cell hb h.b1, box_cell hb h.c0, box_cell hb h.c1, below_step h.bel hb⟩
end

/- The laws' helpers of package expand: long, same. -/
section
open Go.RowKit Go.Shelf
attribute [local go_sem ↓] Go.wp_at_zero Go.wp_at_succ
end

/- The laws' helpers of package expand: near. -/
section
open Go.RowKit Go.Shelf
attribute [local go_sem ↓] Go.wp_at_zero Go.wp_at_succ
theorem Bd.ab {h l : Int} {q : Rat} (hb : Bd h l q) : Bd h l (if q < 0 then -q else q) := by
 split
 · exact hb.neg
 · exact hb
end

/- The laws' helpers of package expand: has. -/
section
open Go.RowKit Go.Shelf
attribute [local go_sem ↓] Go.wp_at_zero Go.wp_at_succ
end

/- Package expand: joined, with whatever is so from round to round (for lists that are written out). -/
section
open Go.RowKit
end
end Go.Proofs.YtofklahgpkmfmaaGreatDoor

/- Own texts, put together: Xx Xy Xz Pa Pb Pc Pd Pe Pf. -/
import Derived.Test.YtkbhmglmbolbiaaGreatDoorQ32
import Derived.Test.YtkbhmglmbolbiaaGreatDoorQ34
namespace Go.Proofs.YtkbhmglmbolbiaaGreatDoor
/- The document's side of package expand: magnitude, Number; Scale. -/
section
open Go.RowKit Go.Shelf
attribute [local go_sem ↓] Go.wp_at_zero Go.wp_at_succ
attribute [local go_sem] run_store_float
end

/- The document's side of package expand: which lists may be. -/
section
open Go.RowKit Go.Shelf
attribute [local go_sem ↓] Go.wp_at_zero Go.wp_at_succ
attribute [local go_sem] run_store_float
end

/- The document's side of package expand: Check, Safe, Addable, Number. -/
section
open Go.RowKit Go.Shelf
attribute [local go_sem ↓] Go.wp_at_zero Go.wp_at_succ
structure NumW (w wr : World) (S E : Int) (sv : Value) (q : Rat) : Prop where
 b0 : BoxN wr w.heap.size 0 (.slice none 0 0) 0
 b1 : BoxN wr (w.heap.size + 1) S sv E
 rf : Rf wr (.agg #[.int .i64 S, sv, .int .i64 E]) q
 bel : Below w.heap.size w wr
theorem NumW.start (w : World) : NumW w ((w.alloc (.cells #[.int .i64 0, .slice none 0 0, .int .i64 0] 145)).alloc (.cells #[.int .i64 0, .slice none 0 0, .int .i64 0] 145)) 0 0 (.slice none 0 0) 0 :=
 ⟨(BoxN.new w 0 0 _).alloc _, by have := BoxN.new (w.alloc (.cells #[.int .i64 0, .slice none 0 0, .int .i64 0] 145)) 0 0 (.slice none 0 0); simpa using this, rf_zero _, ((Below.refl _ w).alloc (Nat.le_refl _) _).alloc (by simp) _⟩
theorem NumW.later {w wr wr' : World} {S E : Int} {sv : Value} {q : Rat} (h : NumW w wr S E sv q) (hb : Below wr.heap.size wr wr') : NumW w wr' S E sv q := ⟨h.b0.later hb, h.b1.later hb, h.rf.later hb, below_step h.bel hb⟩
theorem NumW.drew {w wr : World} {S E : Int} {sv : Value} {q : Rat} (h : NumW w wr S E sv q) : NumW w wr.drew S E sv q := ⟨h.b0, h.b1, h.rf.later ⟨rfl, rfl, rfl, Nat.le_refl _, fun _ _ => rfl⟩, h.bel.drew⟩
theorem NumW.set {w wr : World} {S E S' E' : Int} {sv sv' : Value} {q q' : Rat} (h : NumW w wr S E sv q) (hr : Rf wr (.agg #[.int .i64 S', sv', .int .i64 E']) q') : NumW w (((wr.setCell ⟨w.heap.size + 1, 0, none⟩ (.int .i64 S')).setCell ⟨w.heap.size + 1, 1, none⟩ sv').setCell ⟨w.heap.size + 1, 2, none⟩ (.int .i64 E')) S' E' sv' q' :=
 ⟨h.b0.other3 (by omega) _ _ _, h.b1.set3, hr.boxed (other_box h.b1) _ _ _, ((h.bel.setCell (by show w.heap.size ≤ w.heap.size + 1; omega) _).setCell (by show w.heap.size ≤ w.heap.size + 1; omega) _).setCell (by show w.heap.size ≤ w.heap.size + 1; omega) _⟩
end

/- The laws' helpers of package expand: long, same. -/
section
open Go.RowKit Go.Shelf
attribute [local go_sem ↓] Go.wp_at_zero Go.wp_at_succ
end

/- The laws' helpers of package expand: near. -/
section
open Go.RowKit Go.Shelf
attribute [local go_sem ↓] Go.wp_at_zero Go.wp_at_succ
theorem Bd.ab {h l : Int} {q : Rat} (hb : Bd h l q) : Bd h l (if q < 0 then -q else q) := by
 split
 · exact hb.neg
 · exact hb
end

/- The laws' helpers of package expand: has. -/
section
open Go.RowKit Go.Shelf
attribute [local go_sem ↓] Go.wp_at_zero Go.wp_at_succ
end

/- Package expand: joined, with whatever is so from round to round (for lists that are written out). -/
section
open Go.RowKit
end

/- Package expand: squeezed, with whatever is so from round to round (for lists that are written out). -/
section
open Go.RowKit Go.Shelf
attribute [local go_sem] Oper.semAt_some
attribute [local go_sem] run_store_float
end

/- A copy of a list: append to a list of none. -/
section
open Go.RowKit Go.Shelf
end
end Go.Proofs.YtkbhmglmbolbiaaGreatDoor

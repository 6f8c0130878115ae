/- Own texts, put together: Ef Eg Et Eu Ev Ew Eh Ex Ha Hc Hd. -/
import Derived.Test.YtofklahgpkmfmaaGreatDoorQ13
import Derived.Test.YtofklahgpkmfmaaGreatDoorQ16
import Derived.Test.YtofklahgpkmfmaaGreatDoorQ17
import Derived.Below
namespace Go.Proofs.YtofklahgpkmfmaaGreatDoor
/- What is refused. -/
section
open Go.RowKit
end

/- The steps of sums, halves and products: each is the float that the language has of it. -/
section
open Go.RowKit
structure TwoSum (a b x fb fa lb la y : Nat) : Prop where
 s0 : floatBits .add .f64 a b = some x
 s1 : floatBits .sub .f64 x a = some fb
 s2 : floatBits .sub .f64 x fb = some fa
 s3 : floatBits .sub .f64 b fb = some lb
 s4 : floatBits .sub .f64 a fa = some la
 s5 : floatBits .add .f64 la lb = some y
end

/- Sums of tame words: what is rounded off is told exactly. -/
section
theorem fval_abs (b : Nat) : (fval b = fval (frung b) ∨ fval b = -fval (frung b)) := by
 have e1 : frung (frung b) = frung b := by unfold frung; omega
 have e2 : fneg (frung b) = false := by unfold fneg frung; simp
 rw [fval_eq b, fval_eq (frung b), e1, e2]
 generalize ((fmag (frung b) : Nat) : Rat) * p2 (fpl (frung b)) = z
 cases fneg b <;> simp [sgn1] <;> grind
theorem tame_top : fval 9110782046170513408 = p2 1000 := by
 rw [(fval_pos_lt (by omega)).1, show fmag 9110782046170513408 = 4503599627370496 by decide, show fpl 9110782046170513408 = 948 by decide]
 rw [show (1000 : Int) = 948 + ((52 : Nat) : Int) by omega, p2_add, p2_nat, Rat.mul_comm]
end

/- A float's halves, and two floats multiplied (Veltkamp, Dekker), in plain numbers. -/
section
end

/- Two floats multiplied: what is rounded off is told exactly (Dekker), in plain numbers. -/
section
theorem RN.neg {q x : Rat} (h : RN q x) : RN (-q) (-x) := by obtain ⟨T, k, R⟩ := h; exact ⟨T, _, R.neg⟩
end

/- Products of safe words: what is rounded off is told exactly. -/
section
theorem safe_top : fval 6633802251116740608 = p2 450 := by
 rw [(fval_pos_lt (by omega)).1, show fmag 6633802251116740608 = 4503599627370496 by decide, show fpl 6633802251116740608 = 398 by decide]
 rw [show (450 : Int) = 398 + ((52 : Nat) : Int) by omega, p2_add, p2_nat, Rat.mul_comm]
end

/- awake: the examples. -/
section
open Go.RowKit
theorem ex1 : TwoSum 4845873199050653696 4607182418800017408 4845873199050653696 0 4845873199050653696 4607182418800017408 0 4607182418800017408 := ⟨by decide +kernel, by decide +kernel, by decide +kernel, by decide +kernel, by decide +kernel, by decide +kernel⟩
end

/- What Sum, Diff and Prod answer, and what follows of it. -/
section
open Go.RowKit
def Pair (dom : Prop) (q : Rat) (x y : Nat) : Prop :=
 Fin64 x ∧ Fin64 y ∧ x < 18446744073709551616 ∧ y < 18446744073709551616 ∧ ((dom ∧ RV q (fval x) ∧ fval x + fval y = q) ∨ (¬ dom ∧ x = 0 ∧ y = 0))
def TameW (a b : Nat) : Prop := frung a ≤ 9110782046170513408 ∧ frung b ≤ 9110782046170513408
def SafeP (a b : Nat) : Prop := SafeW (frung a) ∧ SafeW (frung b)
end

/- How many bits a float has; that two numbers are the same. -/
section
open Go.RowKit
attribute [local go_sem ↓] Go.wp_at_zero Go.wp_at_succ
theorem run_store_float (P : Program) (w : World) (a : Addr) (m : Mode) (k : FloatKind) (b : Nat) : (store a (.float k b) m).run P w = stored P w a (.float k b) m := run_store P w a _ m rfl
theorem Rf.agg {w : World} {v : Value} {q : Rat} (h : Rf w v q) : ∃ S a n c E, v = .agg #[.int .i64 S, .slice a n c, .int .i64 E] := by
 obtain ⟨S, a, n, c, E, h, _⟩ := h.sgn
 exact ⟨S, a, n, c, E, h⟩
end

/- A number and the floats about the one nearest to it: plain facts. Nextafter. -/
section
open Go.RowKit
end

/- The reference's Rounds: is a float the one nearest to a number? -/
section
open Go.RowKit
attribute [local go_sem ↓] Go.wp_at_zero Go.wp_at_succ
theorem BoxN.later {w w' : World} {b : Nat} {S E : Int} {sv : Value} (h : BoxN w b S sv E) (hb : Below w.heap.size w w') : BoxN w' b S sv E := h.block (hb.block _ h.cells.2.2.2.2)
theorem BoxN.other3 {W : World} {b b' : Nat} {S E : Int} {sv : Value} (h : BoxN W b' S sv E) (hne : b' ≠ b) (x y z : Value) : BoxN (((W.setCell ⟨b, 0, none⟩ x).setCell ⟨b, 1, none⟩ y).setCell ⟨b, 2, none⟩ z) b' S sv E := ((h.other hne x).other hne y).other hne z
theorem BoxN.set3 {W : World} {b : Nat} {S E S' E' : Int} {sv sv' : Value} (h : BoxN W b S sv E) : BoxN (((W.setCell ⟨b, 0, none⟩ (.int .i64 S')).setCell ⟨b, 1, none⟩ sv').setCell ⟨b, 2, none⟩ (.int .i64 E')) b S' sv' E' := by
 unfold BoxN at *
 simp [World.setCell, Array.getElem?_modify, h]
theorem BoxN.new (W : World) (S E : Int) (sv : Value) : BoxN (W.alloc (.cells #[.int .i64 S, sv, .int .i64 E] 138)) W.heap.size S sv E := heap_alloc_new W _
end
end Go.Proofs.YtofklahgpkmfmaaGreatDoor

/- Own texts, put together: Xl Tp Xm Xn Xo Xp Xq Xr Xs Xt Xu Xv Xw Oc Od Oe Ca Gc Ga Gb. -/
import Derived.Test.YtocnkgfoffpbfaaGreatDoorQ1
import Derived.Test.YtocnkgfoffpbfaaGreatDoorQ23
import Derived.RangeFuncNested
import Derived.RangeFuncBound
import Derived.RangeFuncCalls
import Derived.RangeFuncLeaves
import Derived.RangeFuncBox
import Derived.RangeFuncWrites
import Derived.Shelf.Abstract
import Derived.Shelf.RegionOpen
import Derived.WalkKit
import Derived.OwnWalkIn
import Derived.TacticsInMore
import Derived.LoopNIn
import Derived.LoopIn
import Derived.Maps.AppendAt
namespace Go.Proofs.YtocnkgfoffpbfaaGreatDoor
/- Package expand: the walk of joined. -/
section
open Go.RowKit
theorem below_step {w a b : World} (h : Below w.heap.size w a) (h2 : Below a.heap.size a b) : Below w.heap.size w b := h.trans (h2.mono h.size)
end

/- What lies in boxes stays behind a call. -/
section
open Go.RowKit
theorem kp2 {w W W' : World} {p0 p1 : Addr} {x0 x1 : Value} (hb : Below W.heap.size W W') (h : W.cell? p0 = some x0 ∧ W.cell? p1 = some x1 ∧ Below w.heap.size w W) : W'.cell? p0 = some x0 ∧ W'.cell? p1 = some x1 ∧ Below w.heap.size w W' := by
 obtain ⟨a0, a1, z⟩ := h
 exact ⟨box_cell hb a0, box_cell hb a1, below_step z hb⟩
theorem kp4 {w W W' : World} {p0 p1 p2 p3 : Addr} {x0 x1 x2 x3 : Value} (hb : Below W.heap.size W W') (h : W.cell? p0 = some x0 ∧ W.cell? p1 = some x1 ∧ W.cell? p2 = some x2 ∧ W.cell? p3 = some x3 ∧ Below w.heap.size w W) : W'.cell? p0 = some x0 ∧ W'.cell? p1 = some x1 ∧ W'.cell? p2 = some x2 ∧ W'.cell? p3 = some x3 ∧ Below w.heap.size w W' := by
 obtain ⟨a0, a1, a2, a3, z⟩ := h
 exact ⟨box_cell hb a0, box_cell hb a1, box_cell hb a2, box_cell hb a3, below_step z hb⟩
theorem kp5 {w W W' : World} {p0 p1 p2 p3 p4 : Addr} {x0 x1 x2 x3 x4 : Value} (hb : Below W.heap.size W W') (h : W.cell? p0 = some x0 ∧ W.cell? p1 = some x1 ∧ W.cell? p2 = some x2 ∧ W.cell? p3 = some x3 ∧ W.cell? p4 = some x4 ∧ Below w.heap.size w W) : W'.cell? p0 = some x0 ∧ W'.cell? p1 = some x1 ∧ W'.cell? p2 = some x2 ∧ W'.cell? p3 = some x3 ∧ W'.cell? p4 = some x4 ∧ Below w.heap.size w W' := by
 obtain ⟨a0, a1, a2, a3, a4, z⟩ := h
 exact ⟨box_cell hb a0, box_cell hb a1, box_cell hb a2, box_cell hb a3, box_cell hb a4, below_step z hb⟩
theorem kp6 {w W W' : World} {p0 p1 p2 p3 p4 p5 : Addr} {x0 x1 x2 x3 x4 x5 : Value} (hb : Below W.heap.size W W') (h : W.cell? p0 = some x0 ∧ W.cell? p1 = some x1 ∧ W.cell? p2 = some x2 ∧ W.cell? p3 = some x3 ∧ W.cell? p4 = some x4 ∧ W.cell? p5 = some x5 ∧ Below w.heap.size w W) : W'.cell? p0 = some x0 ∧ W'.cell? p1 = some x1 ∧ W'.cell? p2 = some x2 ∧ W'.cell? p3 = some x3 ∧ W'.cell? p4 = some x4 ∧ W'.cell? p5 = some x5 ∧ Below w.heap.size w W' := by
 obtain ⟨a0, a1, a2, a3, a4, a5, z⟩ := h
 exact ⟨box_cell hb a0, box_cell hb a1, box_cell hb a2, box_cell hb a3, box_cell hb a4, box_cell hb a5, below_step z hb⟩
theorem kp8 {w W W' : World} {p0 p1 p2 p3 p4 p5 p6 p7 : Addr} {x0 x1 x2 x3 x4 x5 x6 x7 : Value} (hb : Below W.heap.size W W') (h : W.cell? p0 = some x0 ∧ W.cell? p1 = some x1 ∧ W.cell? p2 = some x2 ∧ W.cell? p3 = some x3 ∧ W.cell? p4 = some x4 ∧ W.cell? p5 = some x5 ∧ W.cell? p6 = some x6 ∧ W.cell? p7 = some x7 ∧ Below w.heap.size w W) : W'.cell? p0 = some x0 ∧ W'.cell? p1 = some x1 ∧ W'.cell? p2 = some x2 ∧ W'.cell? p3 = some x3 ∧ W'.cell? p4 = some x4 ∧ W'.cell? p5 = some x5 ∧ W'.cell? p6 = some x6 ∧ W'.cell? p7 = some x7 ∧ Below w.heap.size w W' := by
 obtain ⟨a0, a1, a2, a3, a4, a5, a6, a7, z⟩ := h
 exact ⟨box_cell hb a0, box_cell hb a1, box_cell hb a2, box_cell hb a3, box_cell hb a4, box_cell hb a5, box_cell hb a6, box_cell hb a7, below_step z hb⟩
theorem kp9 {w W W' : World} {p0 p1 p2 p3 p4 p5 p6 p7 p8 : Addr} {x0 x1 x2 x3 x4 x5 x6 x7 x8 : Value} (hb : Below W.heap.size W W') (h : W.cell? p0 = some x0 ∧ W.cell? p1 = some x1 ∧ W.cell? p2 = some x2 ∧ W.cell? p3 = some x3 ∧ W.cell? p4 = some x4 ∧ W.cell? p5 = some x5 ∧ W.cell? p6 = some x6 ∧ W.cell? p7 = some x7 ∧ W.cell? p8 = some x8 ∧ Below w.heap.size w W) : W'.cell? p0 = some x0 ∧ W'.cell? p1 = some x1 ∧ W'.cell? p2 = some x2 ∧ W'.cell? p3 = some x3 ∧ W'.cell? p4 = some x4 ∧ W'.cell? p5 = some x5 ∧ W'.cell? p6 = some x6 ∧ W'.cell? p7 = some x7 ∧ W'.cell? p8 = some x8 ∧ Below w.heap.size w W' := by
 obtain ⟨a0, a1, a2, a3, a4, a5, a6, a7, a8, z⟩ := h
 exact ⟨box_cell hb a0, box_cell hb a1, box_cell hb a2, box_cell hb a3, box_cell hb a4, box_cell hb a5, box_cell hb a6, box_cell hb a7, box_cell hb a8, below_step z hb⟩
theorem kp10 {w W W' : World} {p0 p1 p2 p3 p4 p5 p6 p7 p8 p9 : Addr} {x0 x1 x2 x3 x4 x5 x6 x7 x8 x9 : Value} (hb : Below W.heap.size W W') (h : W.cell? p0 = some x0 ∧ W.cell? p1 = some x1 ∧ W.cell? p2 = some x2 ∧ W.cell? p3 = some x3 ∧ W.cell? p4 = some x4 ∧ W.cell? p5 = some x5 ∧ W.cell? p6 = some x6 ∧ W.cell? p7 = some x7 ∧ W.cell? p8 = some x8 ∧ W.cell? p9 = some x9 ∧ Below w.heap.size w W) : W'.cell? p0 = some x0 ∧ W'.cell? p1 = some x1 ∧ W'.cell? p2 = some x2 ∧ W'.cell? p3 = some x3 ∧ W'.cell? p4 = some x4 ∧ W'.cell? p5 = some x5 ∧ W'.cell? p6 = some x6 ∧ W'.cell? p7 = some x7 ∧ W'.cell? p8 = some x8 ∧ W'.cell? p9 = some x9 ∧ Below w.heap.size w W' := by
 obtain ⟨a0, a1, a2, a3, a4, a5, a6, a7, a8, a9, z⟩ := h
 exact ⟨box_cell hb a0, box_cell hb a1, box_cell hb a2, box_cell hb a3, box_cell hb a4, box_cell hb a5, box_cell hb a6, box_cell hb a7, box_cell hb a8, box_cell hb a9, below_step z hb⟩
theorem kp12 {w W W' : World} {p0 p1 p2 p3 p4 p5 p6 p7 p8 p9 p10 p11 : Addr} {x0 x1 x2 x3 x4 x5 x6 x7 x8 x9 x10 x11 : Value} (hb : Below W.heap.size W W') (h : W.cell? p0 = some x0 ∧ W.cell? p1 = some x1 ∧ W.cell? p2 = some x2 ∧ W.cell? p3 = some x3 ∧ W.cell? p4 = some x4 ∧ W.cell? p5 = some x5 ∧ W.cell? p6 = some x6 ∧ W.cell? p7 = some x7 ∧ W.cell? p8 = some x8 ∧ W.cell? p9 = some x9 ∧ W.cell? p10 = some x10 ∧ W.cell? p11 = some x11 ∧ Below w.heap.size w W) : W'.cell? p0 = some x0 ∧ W'.cell? p1 = some x1 ∧ W'.cell? p2 = some x2 ∧ W'.cell? p3 = some x3 ∧ W'.cell? p4 = some x4 ∧ W'.cell? p5 = some x5 ∧ W'.cell? p6 = some x6 ∧ W'.cell? p7 = some x7 ∧ W'.cell? p8 = some x8 ∧ W'.cell? p9 = some x9 ∧ W'.cell? p10 = some x10 ∧ W'.cell? p11 = some x11 ∧ Below w.heap.size w W' := by
 obtain ⟨a0, a1, a2, a3, a4, a5, a6, a7, a8, a9, a10, a11, z⟩ := h
 exact ⟨box_cell hb a0, box_cell hb a1, box_cell hb a2, box_cell hb a3, box_cell hb a4, box_cell hb a5, box_cell hb a6, box_cell hb a7, box_cell hb a8, box_cell hb a9, box_cell hb a10, box_cell hb a11, below_step z hb⟩
theorem kp17 {w W W' : World} {p0 p1 p2 p3 p4 p5 p6 p7 p8 p9 p10 p11 p12 p13 p14 p15 p16 : Addr} {x0 x1 x2 x3 x4 x5 x6 x7 x8 x9 x10 x11 x12 x13 x14 x15 x16 : Value} (hb : Below W.heap.size W W') (h : W.cell? p0 = some x0 ∧ W.cell? p1 = some x1 ∧ W.cell? p2 = some x2 ∧ W.cell? p3 = some x3 ∧ W.cell? p4 = some x4 ∧ W.cell? p5 = some x5 ∧ W.cell? p6 = some x6 ∧ W.cell? p7 = some x7 ∧ W.cell? p8 = some x8 ∧ W.cell? p9 = some x9 ∧ W.cell? p10 = some x10 ∧ W.cell? p11 = some x11 ∧ W.cell? p12 = some x12 ∧ W.cell? p13 = some x13 ∧ W.cell? p14 = some x14 ∧ W.cell? p15 = some x15 ∧ W.cell? p16 = some x16 ∧ Below w.heap.size w W) : W'.cell? p0 = some x0 ∧ W'.cell? p1 = some x1 ∧ W'.cell? p2 = some x2 ∧ W'.cell? p3 = some x3 ∧ W'.cell? p4 = some x4 ∧ W'.cell? p5 = some x5 ∧ W'.cell? p6 = some x6 ∧ W'.cell? p7 = some x7 ∧ W'.cell? p8 = some x8 ∧ W'.cell? p9 = some x9 ∧ W'.cell? p10 = some x10 ∧ W'.cell? p11 = some x11 ∧ W'.cell? p12 = some x12 ∧ W'.cell? p13 = some x13 ∧ W'.cell? p14 = some x14 ∧ W'.cell? p15 = some x15 ∧ W'.cell? p16 = some x16 ∧ Below w.heap.size w W' := by
 obtain ⟨a0, a1, a2, a3, a4, a5, a6, a7, a8, a9, a10, a11, a12, a13, a14, a15, a16, z⟩ := h
 exact ⟨box_cell hb a0, box_cell hb a1, box_cell hb a2, box_cell hb a3, box_cell hb a4, box_cell hb a5, box_cell hb a6, box_cell hb a7, box_cell hb a8, box_cell hb a9, box_cell hb a10, box_cell hb a11, box_cell hb a12, box_cell hb a13, box_cell hb a14, box_cell hb a15, box_cell hb a16, below_step z hb⟩
theorem kp20 {w W W' : World} {p0 p1 p2 p3 p4 p5 p6 p7 p8 p9 p10 p11 p12 p13 p14 p15 p16 p17 p18 p19 : Addr} {x0 x1 x2 x3 x4 x5 x6 x7 x8 x9 x10 x11 x12 x13 x14 x15 x16 x17 x18 x19 : Value} (hb : Below W.heap.size W W') (h : W.cell? p0 = some x0 ∧ W.cell? p1 = some x1 ∧ W.cell? p2 = some x2 ∧ W.cell? p3 = some x3 ∧ W.cell? p4 = some x4 ∧ W.cell? p5 = some x5 ∧ W.cell? p6 = some x6 ∧ W.cell? p7 = some x7 ∧ W.cell? p8 = some x8 ∧ W.cell? p9 = some x9 ∧ W.cell? p10 = some x10 ∧ W.cell? p11 = some x11 ∧ W.cell? p12 = some x12 ∧ W.cell? p13 = some x13 ∧ W.cell? p14 = some x14 ∧ W.cell? p15 = some x15 ∧ W.cell? p16 = some x16 ∧ W.cell? p17 = some x17 ∧ W.cell? p18 = some x18 ∧ W.cell? p19 = some x19 ∧ Below w.heap.size w W) : W'.cell? p0 = some x0 ∧ W'.cell? p1 = some x1 ∧ W'.cell? p2 = some x2 ∧ W'.cell? p3 = some x3 ∧ W'.cell? p4 = some x4 ∧ W'.cell? p5 = some x5 ∧ W'.cell? p6 = some x6 ∧ W'.cell? p7 = some x7 ∧ W'.cell? p8 = some x8 ∧ W'.cell? p9 = some x9 ∧ W'.cell? p10 = some x10 ∧ W'.cell? p11 = some x11 ∧ W'.cell? p12 = some x12 ∧ W'.cell? p13 = some x13 ∧ W'.cell? p14 = some x14 ∧ W'.cell? p15 = some x15 ∧ W'.cell? p16 = some x16 ∧ W'.cell? p17 = some x17 ∧ W'.cell? p18 = some x18 ∧ W'.cell? p19 = some x19 ∧ Below w.heap.size w W' := by
 obtain ⟨a0, a1, a2, a3, a4, a5, a6, a7, a8, a9, a10, a11, a12, a13, a14, a15, a16, a17, a18, a19, z⟩ := h
 exact ⟨box_cell hb a0, box_cell hb a1, box_cell hb a2, box_cell hb a3, box_cell hb a4, box_cell hb a5, box_cell hb a6, box_cell hb a7, box_cell hb a8, box_cell hb a9, box_cell hb a10, box_cell hb a11, box_cell hb a12, box_cell hb a13, box_cell hb a14, box_cell hb a15, box_cell hb a16, box_cell hb a17, box_cell hb a18, box_cell hb a19, below_step z hb⟩
end

/- Package expand: a list times a float. -/
section
open Go.RowKit
def SafeB (b : Nat) : Prop := 2580562586483294208 ≤ frung b ∧ frung b ≤ 6633802251116740608
theorem safe_low : fval 2580562586483294208 = U 624 := by
 rw [(fval_pos_lt (by omega)).1, show fmag 2580562586483294208 = 4503599627370496 by decide, show fpl 2580562586483294208 = -502 by decide]
 unfold U
 rw [show ((624 : Nat) : Int) - 1074 = -502 + ((52 : Nat) : Int) by omega, p2_add, p2_nat, Rat.mul_comm]
theorem SafeB.fin {b : Nat} (h : SafeB b) : Fin64 b := by unfold Fin64; have := h.2; omega
theorem SafeB.ab {b : Nat} (h : SafeB b) : U 624 ≤ ab (fval b) ∧ Go.Proofs.YtocnkgfoffpbfaaGreatDoor.ab (fval b) ≤ U 1524 := by
 rw [← ab_fval b h.fin, ← safe_low, show U 1524 = p2 450 from rfl, ← safe_top]
 have f := h.fin
 unfold Fin64 at f
 constructor
 · rcases Nat.lt_or_ge 2580562586483294208 (frung b) with e | e
   · exact Rat.le_of_lt (fval_lt e f)
   · rw [show frung b = 2580562586483294208 by have := h.1; omega]; exact Rat.le_refl
 · rcases Nat.lt_or_ge (frung b) 6633802251116740608 with e | e
   · exact Rat.le_of_lt (fval_lt e (by omega))
   · rw [show frung b = 6633802251116740608 by have := h.2; omega]; exact Rat.le_refl
theorem SafeB.unit {b : Nat} (h : SafeB b) : ∃ B, 572 ≤ B ∧ B ≤ 1472 ∧ M (U B) (fval b) ∧ Go.Proofs.YtocnkgfoffpbfaaGreatDoor.ab (fval b) < U (B + 53) := by
 obtain ⟨a1, a2⟩ := h.ab
 have f := F_fval h.fin
 have hb0 : fval b ≠ 0 := by
   intro e
   rw [e] at a1
   have := U_pos 624
   rw [show Go.Proofs.YtocnkgfoffpbfaaGreatDoor.ab 0 = 0 by unfold Go.Proofs.YtocnkgfoffpbfaaGreatDoor.ab; grind] at a1
   grind
 obtain ⟨K, _, k1, k2⟩ := binade (F.mult0 f) hb0
 have h1 : 624 ≤ K := by
   have : U 624 < U (K + 1) := by grind
   have := U_lt_iff.1 this
   omega
 have h2 : K ≤ 1524 := by
   have : U K ≤ U 1524 := by grind
   exact U_le_iff.1 this
 exact ⟨K - 52, by omega, by omega, f.mult k1, by rw [show K - 52 + 53 = K + 1 by omega]; exact k2⟩
structure SS (b B : Nat) (de re outs : List Nat) (Q : Nat) : Prop where
 inv : SInv (fval b) B (vals de) (vals re) (vals outs) (fval Q)
 fin : Fin64 Q ∧ Q < 18446744073709551616
 fo : ∀ x ∈ outs, Fin64 x
 sd : ∀ x ∈ de, SafeB x
 sr : ∀ x ∈ re, SafeB x
 cnt : outs.length ≤ 2 * de.length
theorem SS.start {b B : Nat} {es : List Nat} (h : Ex (vals es)) (hs : ∀ x ∈ es, SafeB x) : SS b B [] es [] 0 :=
 ⟨by rw [fval0]; exact SInv.start h (fun x hx => by obtain ⟨y, hy, rfl⟩ := List.mem_map.1 hx; exact ⟨F_fval (hs y hy).fin, (hs y hy).ab.1⟩), ⟨fin0, by omega⟩, by simp, by simp, hs, by simp⟩
theorem SS.lim {b B : Nat} {de re outs : List Nat} {Q : Nat} (I : SS b B de re outs Q) (hB : 572 ≤ B ∧ B ≤ 1472) : ab (fval Q) ≤ U 1976 ∧ ∀ x ∈ outs, ab (fval x) < U 1976 := by
 have hd : ∀ d ∈ vals de, ab d < U 1525 := fun d hd => by
   obtain ⟨y, hy, rfl⟩ := List.mem_map.1 hd
   have := (I.sd y hy).ab.2
   have := U_lt_iff.2 (show 1524 < 1525 by omega)
   grind
 constructor
 · have h1 := I.inv.qb 1525 hd (by omega)
   rw [U_mulX' (r := B + 504) (by omega)] at h1
   have := U_mono (show B + 504 ≤ 1976 by omega)
   grind
 · intro x hx
   have h1 := I.inv.hb 1525 hd (by omega) (fval x) (by simp [vals]; exact ⟨x, hx, rfl⟩)
   rw [U_mulX' (r := B + 451) (by omega)] at h1
   have := U_mono (show B + 451 ≤ 1976 by omega)
   grind
theorem SS.step {b B : Nat} {de re outs : List Nat} {Q x T t Q1 h1 Q2 h2 : Nat} (I : SS b B de (x :: re) outs Q) (hb : SafeB b) (hB : 572 ≤ B ∧ B ≤ 1472) (mb : M (U B) (fval b)) (bb : ab (fval b) < U (B + 53))
   (p0 : Pair (SafeP x b) (fval x * fval b) T t) (p1 : Pair (TameW Q t) (fval Q + fval t) Q1 h1) (p2 : Pair (TameW T Q1) (fval T + fval Q1) Q2 h2) : SS b B (de ++ [x]) re (gw (gw outs h1) h2) Q2 := by
 have sx := I.sr x (by simp)
 have lQ := (I.lim hB).1
 have m1 := U_lt_iff.2 (show 1974 < 1975 by omega)
 have u5 := U_succ 1975
 have u6 := U_succ 1976
 have u7 := U_succ 1977
 have u4 := U_succ 1974
 have up := U_pos 1974
 have lt : U 1978 ≤ U 2074 := U_mono (by omega)
 have lxb : ab (fval x * fval b) ≤ U 1974 := by
   rw [ab_mul, ← U_mulX' (s := 1524) (t := 1524) (r := 1974) (by omega)]
   have g1 := Rat.mul_le_mul_of_nonneg_right sx.ab.2 (ab_nonneg (fval b))
   have g2 := Rat.mul_le_mul_of_nonneg_left hb.ab.2 (Rat.le_of_lt (U_pos 1524))
   grind
 obtain ⟨fT, ft, lT, l_t, ⟨_, r0, e0⟩ | ⟨c, _⟩⟩ := p0
 · obtain ⟨T0, k0, R0⟩ := rv_rnd r0
   have bT : ab (fval T) ≤ U 1974 := R0.le_pow' lxb
   have bt : ab (fval t) ≤ U 1974 := by
     have := R0.rest_le
     rw [show fval x * fval b - fval T = fval t by grind] at this
     grind
   have t1 : TameW Q t := ⟨tame_of I.fin.1 (by grind), tame_of ft (by grind)⟩
   obtain ⟨fQ1, fh1, lQ1, lh1, ⟨_, r1, e1⟩ | ⟨c, _⟩⟩ := p1
   · obtain ⟨T1, k1, R1⟩ := rv_rnd r1
     have bQ1 : ab (fval Q1) ≤ U 1977 := R1.le_pow' (by have := ab_add (fval Q) (fval t); grind)
     have t2 : TameW T Q1 := ⟨tame_of fT (by grind), tame_of fQ1 (by grind)⟩
     obtain ⟨fQ2, fh2, lQ2, lh2, ⟨_, r2, e2⟩ | ⟨c, _⟩⟩ := p2
     · obtain ⟨T2, k2, R2⟩ := rv_rnd r2
       have J := I.inv.step (x := fval x) (re := vals re) hB.1 mb bb R0 e0 (F_fval ft) R1 e1 (F_fval fh1) R2 e2 (F_fval fh2)
       refine ⟨?_, ⟨fQ2, lQ2⟩, ?_, ?_, fun y hy => I.sr y (by simp [hy]), ?_⟩
       · rw [vals_gw, vals_gw, show vals (de ++ [x]) = vals de ++ [fval x] by simp [vals]]; exact J
       · intro y hy
         rcases gw_mem hy with hy | rfl
         · rcases gw_mem hy with hy | rfl
           · exact I.fo y hy
           · exact fh1
         · exact fh2
       · intro y hy
         rcases List.mem_append.1 hy with hy | hy
         · exact I.sd y hy
         · rw [List.mem_singleton.1 hy]; exact sx
       · have g1 := gw_length (gw outs h1) h2
         have g2 := gw_length outs h1
         have := I.cnt
         simp
         omega
     · exact absurd t2 c
   · exact absurd t1 c
 · exact absurd ⟨Or.inr sx, Or.inr hb⟩ c
theorem SS.done {b B : Nat} {de outs : List Nat} {Q : Nat} (I : SS b B de [] outs Q) (hB : 572 ≤ B ∧ B ≤ 1472) : Up 1977 (gw outs Q) ∧ (vals (gw outs Q)).sum = (vals de).sum * fval b ∧ (gw outs Q).length ≤ 2 * de.length + 1 := by
 obtain ⟨h1, h2, h3⟩ := SInv.done I.inv
 rw [← vals_gw] at h1 h2
 obtain ⟨l1, l2⟩ := I.lim hB
 have m1 := U_lt_iff.2 (show 1976 < 1977 by omega)
 refine ⟨⟨h1, fun y hy => ?_, fun y hy => ?_⟩, h2, ?_⟩
 · rcases gw_mem hy with hy | rfl
   · exact I.fo y hy
   · exact I.fin.1
 · rcases gw_mem hy with hy | rfl
   · have := l2 y hy
     grind
   · grind
 · have g2 := gw_length outs Q
   have := I.cnt
   omega
structure SW (w : World) (es de re outs : List Nat) (v : Value) (wr : World) : Prop where
 e1 : es = de ++ re
 row : Fr wr w.heap.size v outs
 bel : Below w.heap.size w wr
theorem SW.done {w wr wr' : World} {es de re outs : List Nat} {v : Value} (h : SW w es de re outs v wr) (hb : Below wr.heap.size wr wr') : SW w es de re outs v wr' := ⟨h.e1, h.row.later hb, h.bel.trans (hb.mono h.bel.size)⟩
theorem SW.grown {w wr wr' : World} {es de re outs outs' : List Nat} {v v' : Value} (h : SW w es de re outs v wr) (hr : Fr wr' w.heap.size v' outs') (hb : Below w.heap.size wr wr') : SW w es de re outs' v' wr' := ⟨h.e1, hr, h.bel.trans hb⟩
end

/- Package slices: Backward, of floats. -/
section
open Go.RowKit Go.Shelf
attribute [local go_sem] Oper.semAt_some
abbrev Wd := { b : Nat // b < 18446744073709551616 }
end

/- Package slices: Reverse, of floats. -/
section
open Go.RowKit
attribute [local go_sem ↓] Go.wp_at_zero Go.wp_at_succ
attribute [local go_sem] run_store_float
theorem Fr.set {w : World} {B g cap k d : Nat} {bs : List Nat} (h : Fr w B (.slice (some ⟨g, 0, none⟩) bs.length cap) bs) (hd : d < 18446744073709551616) : Fr (w.setCell ⟨g, k, none⟩ (.float .f64 d)) B (.slice (some ⟨g, 0, none⟩) (bs.set k d).length cap) (bs.set k d) := by
 refine ⟨⟨by simp [f64s], ?_⟩, ?_⟩
 · rcases h.own.2 with ⟨h1, _⟩ | ⟨g', cap', cur, h1, h2, h3, h4, h5, h6, h7⟩
   · cases h1
   · cases h1
     refine Or.inr ⟨g, cap, cur.set! k (.float .f64 d), by simp, h2, ?_, by simpa using h4, h5, by simpa using h6, ?_⟩
     · simp [World.setCell, Array.getElem?_modify, h3]
     · rw [Nat.mul_one] at h7
       have : f64s (bs.set k d) = (f64s bs).set k (.float .f64 d) := by simp [f64s, List.map_set]
       rw [this, ← h7]
       simp [List.take_set]
 · intro b hb
   rcases List.mem_or_eq_of_mem_set hb with hb | rfl
   · exact h.word b hb
   · exact hd
theorem Fr.cell {w : World} {B g cap : Nat} {bs : List Nat} (h : Fr w B (.slice (some ⟨g, 0, none⟩) bs.length cap) bs) (k : Nat) (hk : k < bs.length) : w.cell? ⟨g, k, none⟩ = some (.float .f64 (bs.getD k 0)) := by
 have := h.own.cells (g := g) rfl k (.float .f64 (bs.getD k 0)) (by simp [f64s, List.getD, hk])
 rwa [show (⟨g, 0, none⟩ : Addr).add k = ⟨g, k, none⟩ by unfold Addr.add; split <;> simp_all] at this
theorem Fr.frozen {w : World} {B g cap : Nat} {bs : List Nat} (h : Fr w B (.slice (some ⟨g, 0, none⟩) bs.length cap) bs) (k : Nat) : w.frozen? ⟨g, k, none⟩ = false := by
 rcases h.own.2 with ⟨h1, _⟩ | ⟨g', cap', cur, h1, h2, h3, h4, _⟩
 · cases h1
 · cases h1
   simp [World.frozen?, h3]
theorem Fr.base {w : World} {B g cap n : Nat} {bs : List Nat} (h : Fr w B (.slice (some ⟨g, 0, none⟩) n cap) bs) : B ≤ g := by
 exact (h.own.lt g rfl).1
end

/- Package expand: a list squeezed: what is reckoned. -/
section
open Go.RowKit
theorem near_rndE {q : Rat} {r : Nat} (h : Near q r) (hr : r < 9218868437227405312) : ∃ T k, RndE q (fval r) T k := by
 rcases h with ⟨rfl, rfl⟩ | ⟨hq, T, k, hl, hh, e⟩
 · have hu := U_pos 0
   exact ⟨0, 0, ⟨by rw [fval_zero]; rw [show ((0 : Int) : Rat) = 0 from rfl]; grind, by rw [fval_zero]; grind, by rw [fval_zero]; grind, Or.inl rfl, by grind, by grind, by omega, by omega⟩, fun _ => rfl⟩
 · have hb := kept_bounds hl hh
   have e' : r = T * 4503599627370496 + k := by omega
   have hv := fval_rung T k hb.1 hb.2 (by omega)
   rw [← e'] at hv
   have hU := half_unit T
   have hu := p2_pos ((T : Int) - 1075)
   obtain ⟨l1, l2⟩ := hl
   obtain ⟨s1, s2, s3, s4⟩ := hh
   rw [show ((18014398509481984 : Int) : Rat) = 18014398509481984 from rfl] at l2
   rw [show ((9007199254740992 : Int) : Rat) = 9007199254740992 from rfl] at l1
   have e1 : ((2 * (k : Int) - 1 : Int) : Rat) = 2 * ((k : Nat) : Rat) - 1 := by rw [Rat.intCast_sub, Rat.intCast_mul]; rfl
   have e2 : ((2 * (k : Int) + 1 : Int) : Rat) = 2 * ((k : Nat) : Rat) + 1 := by rw [Rat.intCast_add, Rat.intCast_mul]; rfl
   rw [e1] at s1 s3
   rw [e2] at s2 s4
   have kv : ((k : Nat) : Rat) * U T = 2 * (((k : Nat) : Rat) * p2 ((T : Int) - 1075)) := by rw [hU]; grind
   have z1 : (2 * ((k : Nat) : Rat) - 1) * p2 ((T : Int) - 1075) = 2 * (((k : Nat) : Rat) * p2 ((T : Int) - 1075)) - p2 ((T : Int) - 1075) := by grind
   have z2 : (2 * ((k : Nat) : Rat) + 1) * p2 ((T : Int) - 1075) = 2 * (((k : Nat) : Rat) * p2 ((T : Int) - 1075)) + p2 ((T : Int) - 1075) := by grind
   rw [z1] at s1 s3
   rw [z2] at s2 s4
   have hx : fval r = ((k : Int) : Rat) * U T := by rw [hv]; rfl
   rw [kv] at hv
   clear z1 z2 kv e1 e2 e e'
   generalize ((k : Nat) : Rat) * p2 ((T : Int) - 1075) = Z at *
   generalize p2 ((T : Int) - 1075) = h at *
   refine ⟨T, (k : Int), ⟨hx, by rw [hv, hU]; grind, by rw [hv, hU]; grind, ?_, by rw [hU]; grind, by rw [hU]; grind, by omega, by omega⟩, fun he => ?_⟩
   · rcases l1 with l1 | l1
     · exact Or.inl l1
     · exact Or.inr (Or.inl (by rw [hU]; grind))
   · rw [hv, hU] at he
     have : q = 2 * Z - h ∨ q = 2 * Z + h := by
       unfold ab at he
       split at he
       · left; grind
       · right; grind
     rcases this with h1 | h1
     · have := s3 h1; omega
     · have := s4 h1; omega
theorem RndE.neg {q x : Rat} {T : Nat} {k : Int} (h : RndE q x T k) : RndE (-q) (-x) T (-k) := by
 refine ⟨h.1.neg, fun he => ?_⟩
 have := h.2 (by rw [← he, show -q - -x = -(q - x) by grind, ab_neg])
 omega
theorem rv_rndE {q x : Rat} (h : RV q x) : ∃ T k, RndE q x T k := by
 obtain ⟨r, hr, h⟩ := h
 rcases h with ⟨_, n, rfl⟩ | ⟨_, n, rfl⟩
 · exact near_rndE n hr
 · obtain ⟨T, k, R⟩ := near_rndE n hr
   have := R.neg
   rw [show - -q = q by grind] at this
   exact ⟨T, _, this⟩
structure ZS (top : Nat) (S : Rat) (ds : List Nat) (k : Nat) (bs : List Nat) (c : Nat) : Prop where
 inv : ZInv top S (vals bs.reverse) (fval c) (vals (ds.take (ds.length - k)))
 fin : Fin64 c
 fb : ∀ b ∈ bs, Fin64 b
theorem ZS.tame {top : Nat} {S : Rat} {ds : List Nat} {k : Nat} {bs : List Nat} {c x : Nat} (I : ZS top S ds k bs c) (ht : top ≤ 2074) (hx : Fin64 x) (hm : x ∈ ds.take (ds.length - k)) : TameW c x := by
 obtain ⟨p, r1, r2, r3, r4⟩ := I.inv.room
 have u := U_mono (show p ≤ 2074 by omega)
 have hp := I.inv.exl
 have hxc := (List.pairwise_append.1 hp.1).2.2 (fval x) (by simp only [vals, List.mem_map]; exact ⟨x, hm, rfl⟩) (fval c) (by simp)
 have := hxc.lt (hp.2 (fval c) (by simp))
 exact ⟨tame_of I.fin (by grind), tame_of hx (by grind)⟩
theorem take_last {ds : List Nat} {k : Nat} (h : k < ds.length) : ds.take (ds.length - k) = ds.take (ds.length - (k + 1)) ++ [ds.getD (ds.length - 1 - k) 0] := by
 have h2 : ds.length - 1 - k < ds.length := by omega
 rw [show ds.length - k = (ds.length - (k + 1)) + 1 by omega, List.take_add_one, show ds.length - (k + 1) = ds.length - 1 - k by omega]
 simp [List.getD, h2]
theorem ZS.step {top : Nat} {S : Rat} {ds : List Nat} {k : Nat} {bs : List Nat} {c s r : Nat} (I : ZS top S ds k bs c) (ht : top ≤ 2074) (hk : k < ds.length) (hf : ∀ b ∈ ds, Fin64 b)
   (p : Pair (TameW c (ds.getD (ds.length - 1 - k) 0)) (fval c + fval (ds.getD (ds.length - 1 - k) 0)) s r) : (frung r = 0 → ZS top S ds (k + 1) bs s) ∧ (frung r ≠ 0 → ZS top S ds (k + 1) (bs ++ [s]) r) := by
 have hx : Fin64 (ds.getD (ds.length - 1 - k) 0) := hf _ (by
   have h2 : ds.length - 1 - k < ds.length := by omega
   rw [show ds.getD (ds.length - 1 - k) 0 = ds[ds.length - 1 - k] by simp [List.getD, h2]]
   exact List.getElem_mem h2)
 have tm := I.tame ht hx (by rw [take_last hk]; simp)
 have J := I.inv
 rw [take_last hk] at J
 simp only [vals, List.map_append, List.map_cons, List.map_nil] at J
 obtain ⟨fs, fr, ls, lr, ⟨_, rv, e⟩ | ⟨cn, _⟩⟩ := p
 · constructor
   · intro h0
     have z : fval r = 0 := fval_zero_iff.2 h0
     have es : fval s = fval c + fval (ds.getD (ds.length - 1 - k) 0) := by rw [← e, z]; grind
     refine ⟨?_, fs, I.fb⟩
     rw [es]
     exact J.take (by rw [← es]; exact F_fval fs)
   · intro h0
     obtain ⟨T, kk, R⟩ := rv_rndE rv
     have J2 := J.emit R e (F_fval fr) (fun z => h0 (fval_zero_iff.1 z))
     refine ⟨?_, fr, fun b hb => ?_⟩
     · rw [List.reverse_append]
       simpa [vals] using J2
     · rcases List.mem_append.1 hb with hb | hb
       · exact I.fb b hb
       · rw [List.mem_singleton.1 hb]; exact fs
 · exact absurd tm cn
theorem ZS.start {top : Nat} {ds : List Nat} {c : Nat} (h : Up top (ds ++ [c])) : ZS top ((vals (ds ++ [c])).sum) ds 0 [] c := by
 refine ⟨?_, h.fin c (by simp), by simp⟩
 rw [Nat.sub_zero, List.take_length]
 have := ZInv.start (top := top) (c := fval c) (lo := vals ds) (by have := h.ex; simpa [vals] using this) (fun x hx => by
   have : x ∈ vals (ds ++ [c]) := by simpa [vals] using hx
   obtain ⟨b, hb, rfl⟩ := List.mem_map.1 this
   exact ⟨F_fval (h.fin b hb), h.lim b hb⟩)
 simpa [vals] using this
structure Sq (top : Nat) (S : Rat) (bs : List Nat) : Prop where
 ex : Ex (vals bs)
 fin : ∀ b ∈ bs, Fin64 b
 sum : (vals bs).sum = S
 cnt : 52 * bs.length ≤ top + 52
 lead : ∀ L, (vals bs).getLast? = some L → 1125899906842624 * ab (L - S) ≤ ab S ∧ ((0 < L ∧ 0 < S) ∨ (L < 0 ∧ S < 0))
theorem ZS.done {top : Nat} {S : Rat} {ds bs : List Nat} {k c : Nat} (I : ZS top S ds k bs c) (hk : k = ds.length) : Sq top S (bs ++ [c]).reverse := by
 have J := I.inv
 rw [hk, Nat.sub_self, List.take_zero] at J
 rw [List.reverse_append, List.reverse_singleton, List.singleton_append]
 have J' : ZInv top S (vals bs.reverse) (fval c) [] := J
 obtain ⟨h1, h2, h3, h4⟩ := J'.done
 refine ⟨h1, fun b hb => ?_, h2, ?_, fun L hL => J'.lead hL⟩
 · rcases List.mem_cons.1 hb with rfl | hb
   · exact I.fin
   · exact I.fb b (by simpa using hb)
 · simpa [vals] using h4
theorem Sq.nil (top : Nat) : Sq top 0 [] := ⟨⟨List.Pairwise.nil, by simp [vals]⟩, by simp, by simp [vals], by simp, by simp [vals]⟩
end

/- Package expand: a list squeezed: what lies in memory. -/
section
open Go.RowKit Go.Shelf
structure Zw (w : World) (W : World) (v : Value) (bs : List Nat) (c r : Nat) : Prop where
 b3 : Boxed W w.heap.size 114 v
 b4 : Boxed W (w.heap.size + 1) 22 (.float .f64 c)
 b5 : Boxed W (w.heap.size + 1 + 1) 22 (.float .f64 r)
 row : Fr W (w.heap.size + 4) v bs
 bel : Below w.heap.size w W
 siz : w.heap.size + 4 ≤ W.heap.size
 wc : c < 18446744073709551616
 wr : r < 18446744073709551616
structure K4 (w W W' : World) : Prop where
 bel : Below w.heap.size W W'
 box : W'.heap[w.heap.size + 1 + 1 + 1]? = W.heap[w.heap.size + 1 + 1 + 1]?
 oth : KeepsOthers W W'
theorem K4.refl (w W : World) : K4 w W W := ⟨Below.refl _ _, rfl, KeepsOthers.refl _⟩
theorem K4.trans {w A B C : World} (h : K4 w A B) (k : K4 w B C) : K4 w A C := ⟨h.bel.trans k.bel, k.box.trans h.box, h.oth.trans k.oth⟩
theorem K4.set {w W : World} {a : Addr} (h1 : w.heap.size ≤ a.block) (h2 : a.block ≠ w.heap.size + 1 + 1 + 1) (v : Value) : K4 w W (W.setCell a v) :=
 ⟨(Below.refl _ _).setCell h1 v, Below.heap_setCell W a v _ (Ne.symm h2), KeepsOthers.setCell W a v⟩
theorem K4.below {w W W' : World} (h : Below W.heap.size W W') (hs : w.heap.size + 4 ≤ W.heap.size) : K4 w W W' :=
 ⟨h.mono (by omega), h.block _ (by omega), ⟨h.size, fun k o hk _ => (h.block k (Array.getElem?_eq_some_iff.1 hk).1).trans hk⟩⟩
theorem boxed_belowK {W W' : World} {B b : Nat} {t : TypeId} {v : Value} (h : Boxed W b t v) (hb : Below B W W') (hl : b < B) : Boxed W' b t v := (hb.block b hl).trans h
theorem Zw.later {w W W' : World} {v : Value} {bs : List Nat} {c r : Nat} (h : Zw w W v bs c r) (hb : Below W.heap.size W W') : Zw w W' v bs c r :=
 ⟨boxed_belowK h.b3 hb h.b3.lt, boxed_belowK h.b4 hb h.b4.lt, boxed_belowK h.b5 hb h.b5.lt, h.row.later hb, h.bel.trans (hb.mono h.bel.size), Nat.le_trans h.siz hb.size, h.wc, h.wr⟩
theorem Zw.own {w A A' : World} {v : Value} {bs : List Nat} {c r : Nat} {row : Option Nat} {B : Nat} (h : Zw w A v bs c r) (hB : w.heap.size ≤ B) (hg : A.grownBy A' row) (hr : ∀ r, row = some r → B ≤ r ∧ ∃ o : Obj, A.heap[r]? = some o ∧ o.isCells = false) : Zw w A' v bs c r := by
 have key : ∀ (b : Nat) (cs : Array Value) (t : TypeId) (f : Nat × Nat), A.heap[b]? = some (.cells cs t f) → some b ≠ row := fun b cs t f hb e => by
   obtain ⟨_, o, ho, hc⟩ := hr b e.symm
   rw [hb] at ho
   cases ho
   cases hc
 refine ⟨h.b3.kept hg (key _ _ _ _ h.b3), h.b4.kept hg (key _ _ _ _ h.b4), h.b5.kept hg (key _ _ _ _ h.b5), ⟨h.row.own.kept hg ?_, h.row.word⟩, h.bel.grown hg h.bel.size (fun k e => Nat.le_trans hB (hr k e).1), Nat.le_trans h.siz hg.size, h.wc, h.wr⟩
 rcases h.row.own.2 with ⟨h1, _⟩ | ⟨g, cap, cur, h1, h2, h3, h4⟩
 · left; rw [h1]; rfl
 · right
   rw [h1]
   exact key g _ _ _ h3
end

/- Package expand: a list squeezed: the walk. -/
section
open Go.RowKit Go.Shelf
attribute [local go_sem] Oper.semAt_some
attribute [local go_sem] run_store_float
end

/- Package expand: a list squeezed, whatever it is; a list turned about. -/
section
open Go.RowKit Go.Shelf
attribute [local go_sem] run_store_float
end

/- Package expand: which lists may be, and what follows of it. -/
section
open Go.RowKit Go.Shelf
theorem up_may {lo hi : Nat} {bs : List Nat} (hx : Ex (vals bs)) (hl : bs.length ≤ 64) (hb : ∀ b ∈ bs, lo ≤ frung b ∧ frung b ≤ hi) : MayP lo hi bs := by
 refine ⟨hl, fun i hi => ?_⟩
 have hm : bs.getD i 0 ∈ bs := by
   rw [show bs.getD i 0 = bs[i] by simp [List.getD, hi]]; exact List.getElem_mem hi
 refine ⟨(hb _ hm).1, (hb _ hm).2, fun e => hx.2 (fval (bs.getD i 0)) (List.mem_map.2 ⟨_, hm, rfl⟩) (fval_zero_iff.2 e), fun h0 => ?_⟩
 have := (List.pairwise_iff_getElem.1 hx.1) (i - 1) i (by simp [vals]; omega) (by simp [vals]; omega) (by omega)
 have h1 : i - 1 < bs.length := by omega
 simpa [vals, List.getD, hi, h1] using this
theorem top990 : fval 9065746049896808448 = U 2064 := by
 rw [(fval_pos_lt (by omega)).1, show fmag 9065746049896808448 = 4503599627370496 by decide, show fpl 9065746049896808448 = 938 by decide]
 unfold U
 rw [show ((2064 : Nat) : Int) - 1074 = 938 + ((52 : Nat) : Int) by omega, p2_add, p2_nat, Rat.mul_comm]
theorem word_le {b : Nat} (h : Fin64 b) (hl : ab (fval b) ≤ U 2064) : frung b ≤ 9065746049896808448 := by
 rcases Nat.lt_or_ge 9065746049896808448 (frung b) with h1 | h1
 · exfalso
   have := fval_lt h1 h
   rw [top990, ab_fval b h] at this
   grind
 · exact h1
theorem Ex.lead {l : List Rat} {c : Rat} (h : Ex (l ++ [c])) : ab l.sum < ab c := by
 have c0 : c ≠ 0 := h.2 c (by simp)
 by_cases e : l = []
 · subst e
   rw [List.sum_nil, show ab 0 = 0 by unfold ab; grind]
   exact ab_pos c0
 · obtain ⟨t, h1, h2⟩ := lo_many (fun d hd => (List.pairwise_append.1 h.1).2.2 d hd c (by simp)) e
   have h3 := h.left.bound (s := t) h1
   have h4 := h2.ge (U_pos t) c0
   grind
theorem vals_last {bs : List Nat} (h : bs ≠ []) : ∃ ds, bs = ds ++ [lastW bs] := by
 rcases List.eq_nil_or_concat bs with rfl | ⟨ds, c, rfl⟩
 · exact absurd rfl h
 · exact ⟨ds, by rw [List.concat_eq_append]; simp [lastW, List.getD]⟩
theorem Ex.le_last {l : List Rat} {c x : Rat} (h : Ex (l ++ [c])) (hx : x ∈ l ++ [c]) : ab x ≤ ab c := by
 rcases List.mem_append.1 hx with hx | hx
 · have := ((List.pairwise_append.1 h.1).2.2 x hx c (by simp)).lt (h.2 c (by simp))
   grind
 · rw [List.mem_singleton.1 hx]; exact Rat.le_refl
theorem Sq.up {top N : Nat} {S : Rat} {bs : List Nat} (h : Sq top S bs) (hS : ab S < U N) : Up (N + 1) bs := by
 refine ⟨h.ex, h.fin, fun b hb => ?_⟩
 have hne : bs ≠ [] := by intro e; rw [e] at hb; cases hb
 obtain ⟨ds, hd⟩ := vals_last hne
 have e2 : vals bs = vals ds ++ [fval (lastW bs)] := by
   conv => lhs; rw [hd]
   simp [vals]
 have hl := (h.lead (fval (lastW bs)) (by rw [e2]; simp)).1
 have hx : fval b ∈ vals bs := List.mem_map.2 ⟨b, hb, rfl⟩
 have hex := h.ex
 rw [e2] at hx hex
 have h1 := hex.le_last hx
 have h2 : ab (fval (lastW bs)) ≤ ab (fval (lastW bs) - S) + ab S := by
   have := ab_add (fval (lastW bs) - S) S
   rwa [show fval (lastW bs) - S + S = fval (lastW bs) by grind] at this
 have h3 := U_succ N
 have h4 := ab_nonneg (fval (lastW bs) - S)
 grind
theorem Up.mono {N N' : Nat} {bs : List Nat} (h : Up N bs) (hN : N ≤ N') : Up N' bs := ⟨h.ex, h.fin, fun b hb => by have := h.lim b hb; have := U_mono hN; grind⟩
theorem up_nil (N : Nat) : Up N [] := ⟨⟨List.Pairwise.nil, by simp [vals]⟩, by simp, by simp⟩
theorem Sq.may {top N : Nat} {S : Rat} {bs : List Nat} (h : Sq top S bs) (hS : ab S < U N) (hN : N ≤ 2063) (ht : top ≤ 2074) : MayP 0 9065746049896808448 bs := by
 have u := h.up hS
 refine up_may h.ex (by have := h.cnt; omega) (fun b hb => ⟨Nat.zero_le _, word_le (h.fin b hb) ?_⟩)
 have := u.lim b hb
 have := U_mono (show N + 1 ≤ 2064 by omega)
 grind
end

/- Package expand: Sign, Near, Cmp, Of. -/
section
open Go.RowKit Go.Shelf
abbrev MayC (bs : List Nat) : Prop := MayP 0 9065746049896808448 bs
end

/- Package expand: Sum, Add. -/
section
open Go.RowKit Go.Shelf
structure SumS (S : Rat) (bs : List Nat) : Prop where
 sum : (vals bs).sum = S
 up : Up 1984 bs
 cnt : bs.length ≤ 64
 may : MayC bs
 sq : ∃ top, Sq top S bs
theorem SumS.nil : SumS 0 [] := ⟨rfl, up_nil _, by simp, ⟨by simp, fun i hi => by simp at hi⟩, ⟨0, Sq.nil 0⟩⟩
theorem SumS.of {S : Rat} {bs : List Nat} {top : Nat} (h : Sq top S bs) (ht : top ≤ 2000) (hS : ab S < U 1983) : SumS S bs :=
 ⟨h.sum, h.up hS, by have := h.cnt; omega, h.may hS (by omega) (by omega), ⟨top, h⟩⟩
end

/- Package expand: Add, Mul, Scale. -/
section
open Go.RowKit Go.Shelf
end

/- Which points may be: grid.Has. -/
section
open Go.RowKit
attribute [local go_sem ↓] Go.wp_at_zero Go.wp_at_succ
attribute [local go_sem] run_store_float
def Pt (x y : Nat) : Prop := Crd x ∧ Crd y
set_option maxRecDepth 100000 in
set_option maxHeartbeats 4000000 in
theorem has_walk (g n c : Nat) (xs ys : Nat → Nat) (w : World) (hc : ∀ k, k < n → w.cell? ⟨g, k * 2, none⟩ = some (.float .f64 (xs k)) ∧ w.cell? ⟨g, k * 2 + 1, none⟩ = some (.float .f64 (ys k))) (hw : ∀ k, xs k < 18446744073709551616 ∧ ys k < 18446744073709551616) (hn : n ≤ 100) :
   Calls Tryz.prog 25 #[.slice (some ⟨g, 0, none⟩) n c] w fun e w' => (∃ t, e = .returned (.bool t) ∧ (t = true ↔ ∀ k, k < n → Pt (xs k) (ys k))) ∧ Below w.heap.size w w' := by
 have HC : Hid (∀ k, k < n → w.cell? ⟨g, k * 2, none⟩ = some (.float .f64 (xs k)) ∧ w.cell? ⟨g, k * 2 + 1, none⟩ = some (.float .f64 (ys k))) := hc
 have HW : Hid (∀ k, xs k < 18446744073709551616 ∧ ys k < 18446744073709551616) := hw
 have l1 : (n : Int) ≤ 100 := by omega
 clear hc hw hn
 go_enter Tryz.func25, Tryz.ntmps25
 go_wp2
 go_loopw [7] (fun i wr => ∃ k : Nat, k ≤ n ∧ i = .int .i64 (k : Nat) ∧ Hid (Below w.heap.size w wr ∧ ∀ j, j < k → Pt (xs j) (ys j))) (fun i _ => n - (intOf i).toNat)
 case atStart => exact ⟨0, Nat.zero_le _, rfl, Below.refl _ _, fun j hj => by omega⟩
 case round =>
   obtain ⟨k, hk, rfl, hB⟩ := hrel
   by_cases hlt : k < n
   · have hlt' : (k : Int) < (n : Int) := by omega
     have hk0 : (0 : Int) ≤ (k : Int) := by omega
     have c1 := box_cell hB.out.1 (HC.out k hlt).1
     have c2 := box_cell hB.out.1 (HC.out k hlt).2
     obtain ⟨x, hx⟩ : ∃ x : Nat, Hid (xs k = x) := ⟨_, rfl⟩
     obtain ⟨y, hy⟩ : ∃ y : Nat, Hid (ys k = y) := ⟨_, rfl⟩
     rw [hx.out] at c1
     rw [hy.out] at c2
     have HX : Hid (x < 18446744073709551616 ∧ y < 18446744073709551616) := by rw [← hx.out, ← hy.out]; exact HW.out k
     have HNO : Hid (¬ Pt x y → ¬ ∀ k, k < n → Pt (xs k) (ys k)) := fun h1 h2 => h1 (by rw [← hx.out, ← hy.out]; exact h2 k hlt)
     go_wp2_with fail
     refine (stands_any x _ HX.out.1).mono ?_
     rintro e w1 ⟨⟨t, rfl, ht⟩, hb1⟩
     have d2 : w1.cell? ⟨wr.heap.size, 1, none⟩ = some (.float .f64 y) := box_cell hb1 (by go_simp)
     have HB1 : Hid (Below w.heap.size w w1) := below_step (hB.out.1.alloc hB.out.1.size _) hb1
     have HT : Hid (t = true ↔ Crd x) := ht
     clear ht hb1 c1 c2
     cases t
     · have HN : Hid (¬ Crd x) := fun h => Bool.noConfusion (HT.out.2 h)
       go_wp2
       go_ret
       exact ⟨⟨false, rfl, fun h => Bool.noConfusion h, fun h => absurd h (HNO.out (fun h => HN.out h.1))⟩, HB1.out⟩
     · have HCX : Hid (Crd x) := HT.out.1 rfl
       go_wp2_with fail
       refine (stands_any y _ HX.out.2).mono ?_
       rintro e w2 ⟨⟨t, rfl, ht⟩, hb2⟩
       have HB2 : Hid (Below w.heap.size w w2) := below_step HB1.out hb2
       have HT2 : Hid (t = true ↔ Crd y) := ht
       clear ht hb2 d2
       cases t
       · have HN : Hid (¬ Crd y) := fun h => Bool.noConfusion (HT2.out.2 h)
         go_wp2
         go_ret
         exact ⟨⟨false, rfl, fun h => Bool.noConfusion h, fun h => absurd h (HNO.out (fun h => HN.out h.2))⟩, HB2.out⟩
       · have HCY : Hid (Crd y) := HT2.out.1 rfl
         go_wp2
         refine ⟨⟨k + 1, by omega, by go_num, HB2.out, fun j hj => ?_⟩, by simp [intOf]; omega⟩
         by_cases e : j = k
         · rw [e, hx.out, hy.out]; exact ⟨HCX.out, HCY.out⟩
         · exact hB.out.2 j (by omega)
   · obtain rfl : k = n := by omega
     have hltb : decide ((k : Int) < (k : Int)) = false := decide_eq_false (by omega)
     go_wp2
     go_ret
     exact ⟨⟨true, rfl, fun _ => hB.out.2, fun _ => rfl⟩, hB.out.1⟩
end

/- Signs that are told fast: the floats that are reckoned. -/
section
open Go.RowKit
def S3 (ax ay bx by' cx cy : Nat) : Rat := (fval bx - fval ax) * (fval cy - fval ay) - (fval by' - fval ay) * (fval cx - fval ax)
def Sm (x : Nat) : Prop := ∃ n : Int, fval x = (n : Rat) ∧ -1024 ≤ n ∧ n ≤ 1024
theorem sgq_three {s X : Rat} (h : (0 < s ∧ 0 < X) ∨ (s < 0 ∧ X < 0) ∨ (s = 0 ∧ X = 0)) : sgq s = sgq X := by
 unfold sgq
 rcases h with ⟨a, b⟩ | ⟨a, b⟩ | ⟨a, b⟩
 · rw [if_neg (by grind), if_neg (by grind), if_neg (by grind), if_neg (by grind)]
 · rw [if_pos a, if_pos b]
 · rw [a, b]
theorem RN.le {q x : Rat} {p : Nat} (h : RN q x) (hq : ab q ≤ U p) : ab x ≤ U p := by
 obtain ⟨_, _, R⟩ := h
 exact R.le_pow' hq
theorem lim_U {q : Rat} {p : Nat} (h : ab q ≤ U p) (hp : p ≤ 2000) : Lim q := by
 have h3 : U p < p2 1023 := by unfold U; exact p2_lt (by omega)
 have := ab_le.1 h
 exact ⟨by grind, by grind⟩
theorem ab_sub (x y : Rat) : ab (x - y) ≤ ab x + ab y := by
 have := ab_add x (-y)
 rwa [ab_neg, show x + -y = x - y by grind] at this
theorem U_two' (p : Nat) : U p + U p = U (p + 1) := by rw [U_succ]; grind
theorem mul_le_U {x y : Rat} {p q r : Nat} (h1 : ab x ≤ U p) (h2 : ab y ≤ U q) (e : r + 1074 = p + q) : ab (x * y) ≤ U r := by
 rw [ab_mul, ← U_mulX' e]
 have a := Rat.mul_le_mul_of_nonneg_right h1 (ab_nonneg y)
 have b := Rat.mul_le_mul_of_nonneg_left h2 (Rat.le_of_lt (U_pos p))
 exact Rat.le_trans a b
theorem M.ab {u x : Rat} (h : M u x) : M u (ab x) := by
 unfold Go.Proofs.YtocnkgfoffpbfaaGreatDoor.ab
 split
 · exact h.neg
 · exact h
theorem low51 : fval 4377498837804122112 = U 1023 := by
 have := fval_rung 971 4503599627370496 (by omega) (Or.inr (by omega)) (by omega)
 have h := U_52 971
 rw [show (4377498837804122112 : Nat) = 971 * 4503599627370496 + 4503599627370496 from rfl, this]
 exact h.symm
theorem word_F {b : Nat} (h : Fin64 b) : F (fval b) := by
 obtain ⟨S, m, c⟩ := fc_word h
 exact c.f
theorem diff_word {a b : Nat} (ha : Crd a) (hb : Crd b) : ∃ d, floatBits .sub .f64 b a = some d ∧ Fin64 d ∧ d < 18446744073709551616 ∧ RN (fval b - fval a) (fval d) ∧ M (U 974) (fval b - fval a) ∧ ab (fval b - fval a) ≤ U 1175 := by
 have hm : M (U 974) (fval b - fval a) := hb.2.sub ha.2
 have hl : ab (fval b - fval a) ≤ U 1175 := by
   have := ab_sub (fval b) (fval a)
   have h1 := crd_ab ha.1
   have h2 := crd_ab hb.1
   have h3 := U_two' 1174
   grind
 obtain ⟨d, e, f, l, r⟩ := sub_bits (crd_fin hb.1) (crd_fin ha.1) (lim_U hl (by omega))
 exact ⟨d, e, f, l, r.rn, hm, hl⟩
theorem prod_word {d e : Nat} {p q : Rat} (fd : Fin64 d) (fe : Fin64 e) (rd : RN p (fval d)) (re : RN q (fval e)) (md : M (U 974) p) (me : M (U 974) q) (ld : ab p ≤ U 1175) (le : ab q ≤ U 1175) :
   ∃ l, floatBits .mul .f64 d e = some l ∧ Fin64 l ∧ l < 18446744073709551616 ∧ RN (fval d * fval e) (fval l) ∧ M (U 874) (fval l) ∧ ab (fval l) ≤ U 1276 ∧ 9223372036854775808 * ab (p * q - fval l) ≤ 3073 * ab (fval l) := by
 have h1 := rd.mm md
 have h2 := re.mm me
 have hm : M (U 874) (fval d * fval e) := by
   have := h1.mul h2
   rwa [U_mulX' (s := 974) (t := 974) (r := 874) (by omega)] at this
 have hl : ab (fval d * fval e) ≤ U 1276 := mul_le_U (rd.le ld) (re.le le) (by omega)
 obtain ⟨l, e1, f, lw, r⟩ := mul_bits fd fe (lim_U hl (by omega))
 exact ⟨l, e1, f, lw, r.rn, r.rn.mm hm, r.rn.le hl, prod_err (rd.rel md) (re.rel me) (r.rn.rel hm)⟩
theorem RN.int {q x : Rat} (h : RN q x) (n : Int) (e : q = (n : Rat)) (h1 : -9007199254740992 ≤ n) (h2 : n ≤ 9007199254740992) : x = q := h.exact (by rw [e]; exact F_int n h1 h2)
theorem int_mul_bound {a b : Int} {k m : Int} (h1 : -k ≤ a) (h2 : a ≤ k) (h3 : -m ≤ b) (h4 : b ≤ m) : -(k * m) ≤ a * b ∧ a * b ≤ k * m := by
 have e1 : (0 : Int) ≤ (k - a) * (m - b) := Int.mul_nonneg (by omega) (by omega)
 have e2 : (0 : Int) ≤ (k + a) * (m + b) := Int.mul_nonneg (by omega) (by omega)
 have e3 : (0 : Int) ≤ (k - a) * (m + b) := Int.mul_nonneg (by omega) (by omega)
 have e4 : (0 : Int) ≤ (k + a) * (m - b) := Int.mul_nonneg (by omega) (by omega)
 rw [Int.sub_mul, Int.mul_sub, Int.mul_sub] at e1
 rw [Int.add_mul, Int.mul_add, Int.mul_add] at e2
 rw [Int.sub_mul, Int.mul_add, Int.mul_add] at e3
 rw [Int.add_mul, Int.mul_sub, Int.mul_sub] at e4
 generalize k * m = km at *
 generalize k * b = kb at *
 generalize a * m = am at *
 generalize a * b = ab at *
 omega
theorem ab_one {n : Int} (h : (n : Rat) ≠ 0) : 1 ≤ ab (n : Rat) := by
 have := M.ge (u := 1) (x := (n : Rat)) (by grind) ⟨n, by grind⟩ h
 exact this
theorem ab_int {n : Int} {k : Nat} (h1 : -(k : Int) ≤ n) (h2 : n ≤ (k : Int)) : ab (n : Rat) ≤ ((k : Nat) : Rat) := by
 apply ab_le.2
 have a : (n : Rat) ≤ ((k : Int) : Rat) := Rat.intCast_le_intCast.2 h2
 have b : ((-(k : Int) : Int) : Rat) ≤ (n : Rat) := Rat.intCast_le_intCast.2 h1
 rw [Rat.intCast_neg] at b
 have e : ((k : Int) : Rat) = ((k : Nat) : Rat) := rfl
 rw [e] at a b
 exact ⟨a, by grind⟩
set_option maxHeartbeats 1000000 in
theorem fast_words {ax ay bx by' cx cy : Nat} (h1 : Crd ax) (h2 : Crd ay) (h3 : Crd bx) (h4 : Crd by') (h5 : Crd cx) (h6 : Crd cy) :
   ∃ d1 d2 l d3 d4 r s z v, floatBits .sub .f64 bx ax = some d1 ∧ floatBits .sub .f64 cy ay = some d2 ∧ floatBits .mul .f64 d1 d2 = some l ∧ floatBits .sub .f64 by' ay = some d3 ∧ floatBits .sub .f64 cx ax = some d4 ∧ floatBits .mul .f64 d3 d4 = some r ∧ floatBits .sub .f64 l r = some s ∧ floatBits .add .f64 (frung l) (frung r) = some z ∧ floatBits .mul .f64 4377498837804122112 z = some v ∧
     l < 18446744073709551616 ∧ r < 18446744073709551616 ∧ s < 18446744073709551616 ∧ Fin64 s ∧
     ((FloatKind.f64.format.order (frung s) v == some .lt) = false → sgq (fval s) = sgq (S3 ax ay bx by' cx cy)) ∧
     (Sm ax → Sm ay → Sm bx → Sm by' → Sm cx → Sm cy → S3 ax ay bx by' cx cy ≠ 0 → (FloatKind.f64.format.order (frung s) v == some .lt) = false) := by
 obtain ⟨d1, e1, f1, _, n1, m1, l1⟩ := diff_word h1 h3
 obtain ⟨d2, e2, f2, _, n2, m2, l2⟩ := diff_word h2 h6
 obtain ⟨d3, e3, f3, _, n3, m3, l3⟩ := diff_word h2 h4
 obtain ⟨d4, e4, f4, _, n4, m4, l4⟩ := diff_word h1 h5
 obtain ⟨l, el, fl, wl, nl, ml, ll, pl⟩ := prod_word f1 f2 n1 n2 m1 m2 l1 l2
 obtain ⟨r, er, fr, wr, nr, mr, lr, pr⟩ := prod_word f3 f4 n3 n4 m3 m4 l3 l4
 have bs : ab (fval l - fval r) ≤ U 1277 := by
   have := ab_sub (fval l) (fval r)
   have h := U_two' 1276
   grind
 obtain ⟨s, es, fs, ws, rs⟩ := sub_bits fl fr (lim_U bs (by omega))
 have fl' : Fin64 (frung l) := fin_small fl
 have fr' : Fin64 (frung r) := fin_small fr
 have vl := ab_fval l fl
 have vr := ab_fval r fr
 have b0 : 0 ≤ ab (fval l) + ab (fval r) := by have := ab_nonneg (fval l); have := ab_nonneg (fval r); grind
 have bz : ab (ab (fval l) + ab (fval r)) ≤ U 1277 := by
   have h := U_two' 1276
   rw [show ab (ab (fval l) + ab (fval r)) = ab (fval l) + ab (fval r) by rw [ab, if_neg (by grind)]]
   grind
 obtain ⟨z, ez, fz, wz, rz⟩ := add_bits fl' fr' (by rw [vl, vr]; exact lim_U bz (by omega))
 rw [vl, vr] at rz
 have mz0 : M (U 874) (ab (fval l) + ab (fval r)) := ml.ab.add mr.ab
 have mz := rz.rn.mm mz0
 have lz := rz.rn.le bz
 have hC : Fin64 4377498837804122112 := by unfold Fin64 frung; omega
 have hv0 : ab (U 1023 * fval z) ≤ U 1226 := mul_le_U (p := 1023) (q := 1277) (by rw [ab, if_neg (by have := U_pos 1023; grind)]; exact Rat.le_refl) lz (by omega)
 obtain ⟨v, ev, fv, wv, rv⟩ := mul_bits hC fz (by rw [low51]; exact lim_U hv0 (by omega))
 rw [low51] at rv
 have vv : fval v = U 1023 * fval z := rv.rn.exact (F_less (word_F fz) mz (by omega))
 have hz0 : 0 ≤ fval z := by
   have h := rz.rn.rel mz0
   have a := ab_self (ab (fval l) + ab (fval r) - fval z)
   apply Classical.byContradiction
   intro hn
   have hz' : ab (fval z) = -fval z := by rw [ab, if_pos (by grind)]
   rw [hz'] at h
   grind
 have u0 := U_pos 1023
 have hu : U 1125 * U 1023 = 1 := by
   rw [U_mulX' (s := 1125) (t := 1023) (r := 1074) (by omega)]; unfold U; exact p2_zero
 have hu2 : U 1125 = 2251799813685248 := by
   have := U_add 1074 51
   rw [show U 1074 = 1 from by unfold U; exact p2_zero] at this
   rw [show (1125 : Nat) = 1074 + 51 from rfl, this]
   show ((2251799813685248 : Nat) : Rat) * 1 = _
   rw [Rat.mul_one]; rfl
 have key : (FloatKind.f64.format.order (frung s) v == some .lt) = decide (ab (fval s) < U 1023 * fval z) := by
   rw [order_val (fin_small fs) fv, ab_fval s fs, vv]
   by_cases h : ab (fval s) < U 1023 * fval z
   · rw [if_pos h, decide_eq_true h]; rfl
   · rw [if_neg h, decide_eq_false h]
     split <;> rfl
 refine ⟨d1, d2, l, d3, d4, r, s, z, v, e1, e2, el, e3, e4, er, es, ez, ev, wl, wr, ws, fs, ?_, ?_⟩
 · intro ht
   rw [key] at ht
   have ht' : U 1023 * fval z ≤ ab (fval s) := by
     have := of_decide_eq_false ht
     grind
   have h5' : fval z ≤ 2251799813685248 * ab (fval s) := by
     have := Rat.mul_le_mul_of_nonneg_left ht' (show (0 : Rat) ≤ U 1125 from Rat.le_of_lt (U_pos 1125))
     rw [← Rat.mul_assoc, hu, Rat.one_mul, hu2] at this
     exact this
   exact sgq_three (fast_sign pl pr (rs.rn.rel (ml.sub mr)) (rz.rn.rel mz0) hz0 h5')
 · rintro ⟨i1, v1, a1, b1⟩ ⟨i2, v2, a2, b2⟩ ⟨i3, v3, a3, b3⟩ ⟨i4, v4, a4, b4⟩ ⟨i5, v5, a5, b5⟩ ⟨i6, v6, a6, b6⟩ hne
   have x1 : fval d1 = ((i3 - i1 : Int) : Rat) := by rw [n1.int (i3 - i1) (by rw [v3, v1, Rat.intCast_sub]) (by omega) (by omega), v3, v1, Rat.intCast_sub]
   have x2 : fval d2 = ((i6 - i2 : Int) : Rat) := by rw [n2.int (i6 - i2) (by rw [v6, v2, Rat.intCast_sub]) (by omega) (by omega), v6, v2, Rat.intCast_sub]
   have x3 : fval d3 = ((i4 - i2 : Int) : Rat) := by rw [n3.int (i4 - i2) (by rw [v4, v2, Rat.intCast_sub]) (by omega) (by omega), v4, v2, Rat.intCast_sub]
   have x4 : fval d4 = ((i5 - i1 : Int) : Rat) := by rw [n4.int (i5 - i1) (by rw [v5, v1, Rat.intCast_sub]) (by omega) (by omega), v5, v1, Rat.intCast_sub]
   have y1 := int_mul_bound (a := i3 - i1) (b := i6 - i2) (k := 2048) (m := 2048) (by omega) (by omega) (by omega) (by omega)
   have y2 := int_mul_bound (a := i4 - i2) (b := i5 - i1) (k := 2048) (m := 2048) (by omega) (by omega) (by omega) (by omega)
   have xl : fval l = (((i3 - i1) * (i6 - i2) : Int) : Rat) := by rw [nl.int ((i3 - i1) * (i6 - i2)) (by rw [x1, x2, Rat.intCast_mul]) (by omega) (by omega), x1, x2, Rat.intCast_mul]
   have xr : fval r = (((i4 - i2) * (i5 - i1) : Int) : Rat) := by rw [nr.int ((i4 - i2) * (i5 - i1)) (by rw [x3, x4, Rat.intCast_mul]) (by omega) (by omega), x3, x4, Rat.intCast_mul]
   have eS : S3 ax ay bx by' cx cy = (((i3 - i1) * (i6 - i2) - (i4 - i2) * (i5 - i1) : Int) : Rat) := by
     unfold S3
     rw [v1, v2, v3, v4, v5, v6, Rat.intCast_sub, Rat.intCast_mul, Rat.intCast_mul, Rat.intCast_sub, Rat.intCast_sub, Rat.intCast_sub, Rat.intCast_sub]
   generalize (i3 - i1) * (i6 - i2) = A at *
   generalize (i4 - i2) * (i5 - i1) = B at *
   have xs : fval s = ((A - B : Int) : Rat) := by rw [rs.rn.int (A - B) (by rw [xl, xr, Rat.intCast_sub]) (by omega) (by omega), xl, xr, Rat.intCast_sub]
   rw [eS] at hne
   have s1 := ab_one hne
   have z1 : ab (fval l) + ab (fval r) ≤ U 1097 := by
     have c1 := ab_int (n := A) (k := 4194304) (by omega) (by omega)
     have c2 := ab_int (n := B) (k := 4194304) (by omega) (by omega)
     have : U 1097 = 8388608 := by
       have := U_add 1074 23
       rw [show U 1074 = 1 from by unfold U; exact p2_zero] at this
       rw [show (1097 : Nat) = 1074 + 23 from rfl, this]
       show ((8388608 : Nat) : Rat) * 1 = _
       rw [Rat.mul_one]; rfl
     rw [xl, xr, this]
     have k1 : ((4194304 : Nat) : Rat) = 4194304 := rfl
     rw [k1] at c1 c2
     grind
   have z2 : ab (ab (fval l) + ab (fval r)) ≤ U 1097 := by rw [ab, if_neg (by grind)]; exact z1
   have z3 := rz.rn.le z2
   have z4 : ab (U 1023 * fval z) ≤ U 1046 := mul_le_U (p := 1023) (q := 1097) (by rw [ab, if_neg (by grind)]; exact Rat.le_refl) z3 (by omega)
   have z5 : U 1046 < 1 := by
     have : U 1046 < U 1074 := U_lt_iff.2 (by omega)
     rwa [show U 1074 = 1 from by unfold U; exact p2_zero] at this
   have z6 := (ab_self (U 1023 * fval z)).1
   rw [key]
   apply decide_eq_false
   rw [xs]
   grind
end

/- Package orient: Fast. -/
section
open Go.RowKit Go.Shelf
attribute [local go_sem ↓] Go.wp_at_zero Go.wp_at_succ
attribute [local go_sem] run_store_float
abbrev pv (x y : Nat) : Value := .agg #[.float .f64 x, .float .f64 y]
def P3 (ax ay bx by' cx cy : Nat) : Prop := Pt ax ay ∧ Pt bx by' ∧ Pt cx cy
def W6 (ax ay bx by' cx cy : Nat) : Prop := (ax < 18446744073709551616 ∧ ay < 18446744073709551616) ∧ (bx < 18446744073709551616 ∧ by' < 18446744073709551616) ∧ cx < 18446744073709551616 ∧ cy < 18446744073709551616
theorem has3 (ax ay bx by' cx cy : Nat) (w : World) (hw : W6 ax ay bx by' cx cy) :
   Calls Tryz.prog 25 #[.slice (some ⟨w.heap.size, 0, none⟩) 3 3] (w.alloc (.cells #[.float .f64 ax, .float .f64 ay, .float .f64 bx, .float .f64 by', .float .f64 cx, .float .f64 cy] 24)) fun e w' => (∃ t, e = .returned (.bool t) ∧ (t = true ↔ P3 ax ay bx by' cx cy)) ∧ Below w.heap.size w w' := by
 have hb : Below w.heap.size w (w.alloc (.cells #[.float .f64 ax, .float .f64 ay, .float .f64 bx, .float .f64 by', .float .f64 cx, .float .f64 cy] 24)) := (Below.refl _ w).alloc (Nat.le_refl _) _
 refine (has_walk w.heap.size 3 3 (fun k => if k = 0 then ax else if k = 1 then bx else cx) (fun k => if k = 0 then ay else if k = 1 then by' else cy) _ (fun k hk => ?_) (fun k => ?_) (by omega)).mono ?_
 · have : k = 0 ∨ k = 1 ∨ k = 2 := by omega
   rcases this with rfl | rfl | rfl <;> exact ⟨by go_simp, by go_simp⟩
 · constructor
   · show (if k = 0 then ax else if k = 1 then bx else cx) < _
     split
     · exact hw.1.1
     · split
       · exact hw.2.1.1
       · exact hw.2.2.1
   · show (if k = 0 then ay else if k = 1 then by' else cy) < _
     split
     · exact hw.1.2
     · split
       · exact hw.2.1.2
       · exact hw.2.2.2
 · rintro e w' ⟨⟨t, rfl, ht⟩, hb'⟩
   refine ⟨⟨t, rfl, ?_⟩, below_step hb hb'⟩
   rw [ht]
   exact ⟨fun h => ⟨h 0 (by omega), h 1 (by omega), h 2 (by omega)⟩, fun h j hj => by
     have : j = 0 ∨ j = 1 ∨ j = 2 := by omega
     rcases this with rfl | rfl | rfl
     · exact h.1
     · exact h.2.1
     · exact h.2.2⟩
structure B3 (w W : World) (ax ay bx by' cx cy : Nat) : Prop where
 a0 : W.cell? ⟨w.heap.size, 0, none⟩ = some (.float .f64 ax)
 a1 : W.cell? ⟨w.heap.size, 1, none⟩ = some (.float .f64 ay)
 b0 : W.cell? ⟨w.heap.size + 1, 0, none⟩ = some (.float .f64 bx)
 b1 : W.cell? ⟨w.heap.size + 1, 1, none⟩ = some (.float .f64 by')
 c0 : W.cell? ⟨w.heap.size + 1 + 1, 0, none⟩ = some (.float .f64 cx)
 c1 : W.cell? ⟨w.heap.size + 1 + 1, 1, none⟩ = some (.float .f64 cy)
 bel : Below w.heap.size w W
theorem B3.later {w W W' : World} {ax ay bx by' cx cy : Nat} (h : B3 w W ax ay bx by' cx cy) (hb : Below W.heap.size W W') : B3 w W' ax ay bx by' cx cy :=
 ⟨box_cell hb h.a0, box_cell hb h.a1, box_cell hb h.b0, box_cell hb h.b1, box_cell hb h.c0, box_cell hb h.c1, below_step h.bel hb⟩
theorem B3.start (w : World) (ax ay bx by' cx cy : Nat) : B3 w (((w.alloc (.cells #[.float .f64 ax, .float .f64 ay] 24)).alloc (.cells #[.float .f64 bx, .float .f64 by'] 24)).alloc (.cells #[.float .f64 cx, .float .f64 cy] 24)) ax ay bx by' cx cy :=
 ⟨by go_simp, by go_simp, by go_simp, by go_simp, by go_simp, by go_simp, (((Below.refl _ w).alloc (Nat.le_refl _) _).alloc (by simp) _).alloc (by simp; omega) _⟩
theorem has3' (ax ay bx by' cx cy px py qx qy rx ry : Nat) (w : World) (hw : W6 ax ay bx by' cx cy) :
   Calls Tryz.prog 25 #[.slice (some ⟨w.heap.size + 1 + 1 + 1, 0, none⟩) 3 3] ((((w.alloc (.cells #[.float .f64 px, .float .f64 py] 24)).alloc (.cells #[.float .f64 qx, .float .f64 qy] 24)).alloc (.cells #[.float .f64 rx, .float .f64 ry] 24)).alloc (.cells #[.float .f64 ax, .float .f64 ay, .float .f64 bx, .float .f64 by', .float .f64 cx, .float .f64 cy] 24)) fun e w' => (∃ t, e = .returned (.bool t) ∧ (t = true ↔ P3 ax ay bx by' cx cy)) ∧ B3 w w' px py qx qy rx ry := by
 have h := has3 ax ay bx by' cx cy (((w.alloc (.cells #[.float .f64 px, .float .f64 py] 24)).alloc (.cells #[.float .f64 qx, .float .f64 qy] 24)).alloc (.cells #[.float .f64 rx, .float .f64 ry] 24)) hw
 have e : (((w.alloc (.cells #[.float .f64 px, .float .f64 py] 24)).alloc (.cells #[.float .f64 qx, .float .f64 qy] 24)).alloc (.cells #[.float .f64 rx, .float .f64 ry] 24)).heap.size = w.heap.size + 1 + 1 + 1 := by simp
 have hs := B3.start w px py qx qy rx ry
 generalize ((w.alloc (.cells #[.float .f64 px, .float .f64 py] 24)).alloc (.cells #[.float .f64 qx, .float .f64 qy] 24)).alloc (.cells #[.float .f64 rx, .float .f64 ry] 24) = W at *
 rw [← e]
 exact h.mono fun e' w' ⟨h1, h2⟩ => ⟨h1, hs.later h2⟩
def FastR (ax ay bx by' cx cy : Nat) (z : Int) (t : Bool) : Prop :=
 (t = true → P3 ax ay bx by' cx cy ∧ z = sgq (S3 ax ay bx by' cx cy)) ∧ (t = false → z = 0) ∧ (P3 ax ay bx by' cx cy → Sm ax → Sm ay → Sm bx → Sm by' → Sm cx → Sm cy → S3 ax ay bx by' cx cy ≠ 0 → t = true)
set_option maxRecDepth 100000 in
set_option maxHeartbeats 4000000 in
theorem fast_any (ax ay bx by' cx cy : Nat) (w : World) (hw : W6 ax ay bx by' cx cy) :
   Calls Tryz.prog 64 #[pv ax ay, pv bx by', pv cx cy] w fun e w' => (∃ z t, e = .returned (.tuple #[.int .i64 z, .bool t]) ∧ FastR ax ay bx by' cx cy z t) ∧ Below w.heap.size w w' := by
 have HW : Hid (W6 ax ay bx by' cx cy) := hw
 clear hw
 go_enter Tryz.func64, Tryz.ntmps64
 go_wp2_with fail
 refine (has3' ax ay bx by' cx cy ax ay bx by' cx cy w HW.out).mono ?_
 rintro e w1 ⟨⟨t, rfl, ht⟩, hB⟩
 have HB : Hid (Below w.heap.size w w1) := hB.bel
 have HT : Hid (t = true ↔ P3 ax ay bx by' cx cy) := ht
 clear ht
 cases t
 · clear hB
   go_wp2
   go_ret2
   exact ⟨⟨0, false, rfl, fun h => Bool.noConfusion h, fun _ => rfl, fun h => Bool.noConfusion (HT.out.2 h)⟩, HB.out⟩
 · have HP : Hid (P3 ax ay bx by' cx cy) := HT.out.1 rfl
   obtain ⟨u0, u1, u2, u3, u4, u5, _⟩ := hB
   obtain ⟨d1, d2, l, d3, d4, r, s, z, v, e1, e2, el, e3, e4, er, es, ez, ev, wl, wr, ws, fs, hsg, hkn⟩ := fast_words HP.out.1.1 HP.out.1.2 HP.out.2.1.1 HP.out.2.1.2 HP.out.2.2.1 HP.out.2.2.2
   have r1 : ∀ w, (binOp .sub 22 (.float .f64 bx) (.float .f64 ax)).run Tryz.prog w = .ok (.float .f64 d1) w := fun w => run_float_arith w .sub _ .f64 _ _ _ e1
   have r2 : ∀ w, (binOp .sub 22 (.float .f64 cy) (.float .f64 ay)).run Tryz.prog w = .ok (.float .f64 d2) w := fun w => run_float_arith w .sub _ .f64 _ _ _ e2
   have r3 : ∀ w, (binOp .mul 22 (.float .f64 d1) (.float .f64 d2)).run Tryz.prog w = .ok (.float .f64 l) w := fun w => run_float_arith w .mul _ .f64 _ _ _ el
   have r4 : ∀ w, (binOp .sub 22 (.float .f64 by') (.float .f64 ay)).run Tryz.prog w = .ok (.float .f64 d3) w := fun w => run_float_arith w .sub _ .f64 _ _ _ e3
   have r5 : ∀ w, (binOp .sub 22 (.float .f64 cx) (.float .f64 ax)).run Tryz.prog w = .ok (.float .f64 d4) w := fun w => run_float_arith w .sub _ .f64 _ _ _ e4
   have r6 : ∀ w, (binOp .mul 22 (.float .f64 d3) (.float .f64 d4)).run Tryz.prog w = .ok (.float .f64 r) w := fun w => run_float_arith w .mul _ .f64 _ _ _ er
   have r7 : ∀ w, (binOp .sub 22 (.float .f64 l) (.float .f64 r)).run Tryz.prog w = .ok (.float .f64 s) w := fun w => run_float_arith w .sub _ .f64 _ _ _ es
   have r8 : ∀ w, (binOp .add 22 (.float .f64 (frung l)) (.float .f64 (frung r))).run Tryz.prog w = .ok (.float .f64 z) w := fun w => run_float_arith w .add _ .f64 _ _ _ ez
   have r9 : ∀ w, (binOp .mul 22 (.float .f64 4377498837804122112) (.float .f64 z)).run Tryz.prog w = .ok (.float .f64 v) w := fun w => run_float_arith w .mul _ .f64 _ _ _ ev
   have HL : Hid (∀ w, Calls Tryz.prog 42 #[.float .f64 l] w fun e w' => e = .returned (.float .f64 (frung l)) ∧ w' = w) := fun w => abs_any l w wl
   have HR : Hid (∀ w, Calls Tryz.prog 42 #[.float .f64 r] w fun e w' => e = .returned (.float .f64 (frung r)) ∧ w' = w) := fun w => abs_any r w wr
   have HS : Hid (∀ w, Calls Tryz.prog 42 #[.float .f64 s] w fun e w' => e = .returned (.float .f64 (frung s)) ∧ w' = w) := fun w => abs_any s w ws
   have HC : Hid (∀ w, Calls Tryz.prog 67 #[.float .f64 s, .float .f64 0] w fun e w' => e = .returned (.int .i64 (sgq (fval s))) ∧ w' = w) := fun w => compare_zero s w fs
   obtain ⟨tb, htb⟩ : ∃ tb, (FloatKind.f64.format.order (frung s) v == some .lt) = tb := ⟨_, rfl⟩
   have HSG : Hid (tb = false → sgq (fval s) = sgq (S3 ax ay bx by' cx cy)) := by rw [← htb]; exact hsg
   have HKN : Hid (Sm ax → Sm ay → Sm bx → Sm by' → Sm cx → Sm cy → S3 ax ay bx by' cx cy ≠ 0 → tb = false) := by rw [← htb]; exact hkn
   clear e1 e2 el e3 e4 er es ez ev wl wr ws fs hsg hkn HT
   generalize frung l = fl at *
   generalize frung r = fr at *
   generalize frung s = fs at *
   generalize sgq (fval s) = sg at *
   go_wp2_with fail
   refine (HL.out _).mono ?_
   rintro e w2 ⟨rfl, rfl⟩
   go_wp2_with fail
   refine (HR.out _).mono ?_
   rintro e w2 ⟨rfl, rfl⟩
   go_wp2_with fail
   refine (HS.out _).mono ?_
   rintro e w2 ⟨rfl, rfl⟩
   cases tb
   · go_wp2_with fail
     refine (HC.out _).mono ?_
     rintro e w2 ⟨rfl, rfl⟩
     go_wp2
     go_ret2
     exact ⟨⟨sg, true, rfl, fun _ => ⟨HP.out, HSG.out (by simp)⟩, fun h => Bool.noConfusion h, fun _ _ _ _ _ _ _ _ => rfl⟩, HB.out⟩
   · go_wp2
     go_ret2
     exact ⟨⟨0, false, rfl, fun h => Bool.noConfusion h, fun _ => rfl, fun _ a1 a2 a3 a4 a5 a6 a7 => (HKN.out a1 a2 a3 a4 a5 a6 a7).symm⟩, HB.out⟩
end

/- Circles: what floats tell of a sum of four points: plain facts. -/
section
theorem U1074 : U 1074 = 1 := by unfold U; exact p2_zero
theorem ab_pos' {x : Rat} (h : 0 ≤ x) : ab x = x := by unfold ab; rw [if_neg (by grind)]
theorem sq_err {A B xx yy z : Rat} (h1 : 9223372036854775808 * ab (A - xx) ≤ 3073 * ab xx) (h2 : 9223372036854775808 * ab (B - yy) ≤ 3073 * ab yy) (x0 : 0 ≤ xx) (y0 : 0 ≤ yy) (h3 : 9007199254740992 * ab (xx + yy - z) ≤ ab z) (z0 : 0 ≤ z) :
   9223372036854775808 * ab (A + B - z) ≤ 4098 * z := by
 rw [ab_pos' x0] at h1
 rw [ab_pos' y0] at h2
 rw [ab_pos' z0] at h3
 have t1 : ab (A + B - z) ≤ ab (A - xx) + ab (B - yy) + ab (xx + yy - z) := by
   have a := ab_add (A - xx) (B - yy)
   have b := ab_add (A - xx + (B - yy)) (xx + yy - z)
   rw [show A - xx + (B - yy) + (xx + yy - z) = A + B - z by grind] at b
   grind
 have t2 := (ab_self (xx + yy - z)).1
 generalize ab (A + B - z) = g1 at *
 generalize ab (A - xx) = g2 at *
 generalize ab (B - yy) = g3 at *
 generalize ab (xx + yy - z) = g4 at *
 grind
theorem RN.m1 {q x : Rat} (h : RN q x) (hm : M 1 q) : M 1 x := by
 have := h.mm (t := 1074) (by rw [U1074]; exact hm)
 rwa [U1074] at this
theorem M1.mul {x y : Rat} (h1 : M 1 x) (h2 : M 1 y) : M 1 (x * y) := by
 have := M.mul h1 h2
 rwa [Rat.mul_one] at this
def det3 (x0 y0 x1 y1 x2 y2 : Rat) : Rat := (x0 * x0 + y0 * y0) * (x1 * y2 - y1 * x2) + (x1 * x1 + y1 * y1) * (x2 * y0 - y2 * x0) + (x2 * x2 + y2 * y2) * (x0 * y1 - y0 * x1)
def S4 (ax ay bx by' cx cy dx dy : Nat) : Rat := det3 (fval ax - fval dx) (fval ay - fval dy) (fval bx - fval dx) (fval by' - fval dy) (fval cx - fval dx) (fval cy - fval dy)
theorem Ex.mult {l : List Rat} {t : Nat} (h : Ex l) (hm : M (U t) l.sum) : ∀ x ∈ l, M (U t) x := by
 induction l with
 | nil => intro x hx; cases hx
 | cons x r ih =>
   obtain ⟨hp, h0⟩ := h
   rw [List.pairwise_cons] at hp
   rw [List.sum_cons] at hm
   have er : Ex r := ⟨hp.2, fun y hy => h0 y (by simp [hy])⟩
   have mx : M (U t) x := by
     by_cases hne : r = []
     · subst hne
       rw [List.sum_nil] at hm
       rwa [show x + 0 = x by grind] at hm
     · obtain ⟨s, h1, h2⟩ := lo_list hp.1 hne
       have mr := M.sum h2
       rcases Nat.le_total t s with e | e
       · have := hm.sub (mr.down e)
         rwa [show x + r.sum - r.sum = x by grind] at this
       · have := (hm.down e).sub mr
         rw [show x + r.sum - r.sum = x by grind] at this
         have := this.ge (U_pos s) (h0 x (by simp))
         grind
   intro y hy
   rcases List.mem_cons.1 hy with rfl | hy
   · exact mx
   · have := hm.sub mx
     rw [show x + r.sum - x = r.sum by grind] at this
     exact ih er this y hy
end

/- Floats at full range: what is too great is infinite; quotients. -/
section
theorem near_word (s : Bool) (m : Nat) (place : Int) : ∃ r, Ieee.double.write (.number s m place) = Ieee.double.word s r ∧ Near ((m : Nat) * p2 place) r := by
 show ∃ r, Ieee.double.nearest s m place = Ieee.double.word s r ∧ _
 by_cases hm : m = 0
 · subst hm
   exact ⟨0, by unfold Ieee.Format.nearest; rw [if_pos rfl], Or.inl ⟨by rw [show ((0 : Nat) : Rat) = 0 from rfl]; grind, rfl⟩⟩
 · exact nearest_near s m place hm
def RW (q : Rat) (b : Nat) : Prop := ∃ r, (0 ≤ q ∧ Near q r ∧ b = r) ∨ (q ≤ 0 ∧ Near (-q) r ∧ b = 9223372036854775808 + r)
theorem near_top {q : Rat} {r : Nat} (h : Near q r) (hr : ¬ r < 9218868437227405312) : 0 < q := by
 have h0 := (near_nonneg h).1
 apply Classical.byContradiction
 intro hq
 have e : q = 0 := by grind
 subst e
 have := near_zero h
 omega
theorem RW.cases {q : Rat} {b : Nat} (h : RW q b) : b < 18446744073709551616 ∧ ((Fin64 b ∧ RV q (fval b)) ∨ (b = 9218868437227405312 ∧ 0 < q) ∨ (b = 18442240474082181120 ∧ q < 0)) := by
 obtain ⟨r, h⟩ := h
 rcases h with ⟨h0, hn, rfl⟩ | ⟨h0, hn, rfl⟩
 · have hr := (near_nonneg hn).2
   rcases Nat.lt_or_ge b 9218868437227405312 with h | h
   · exact ⟨by omega, Or.inl ⟨by unfold Fin64 frung; omega, b, h, Or.inl ⟨h0, hn, rfl⟩⟩⟩
   · exact ⟨by omega, Or.inr (Or.inl ⟨by omega, near_top hn (by omega)⟩)⟩
 · have hr := (near_nonneg hn).2
   rcases Nat.lt_or_ge r 9218868437227405312 with h | h
   · exact ⟨by omega, Or.inl ⟨by unfold Fin64 frung; omega, r, h, Or.inr ⟨h0, hn, fval_word h⟩⟩⟩
   · exact ⟨by omega, Or.inr (Or.inr ⟨by omega, by have := near_top hn (by omega); grind⟩)⟩
theorem write_rw (s : Bool) (m : Nat) (place : Int) : ∃ b, Ieee.double.write (.number s m place) = b ∧ RW (sgn1 s * ((m : Nat) * p2 place)) b := by
 obtain ⟨r, e, hn⟩ := near_word s m place
 have h0 := (near_nonneg hn).1
 refine ⟨_, e, r, ?_⟩
 unfold sgn1
 cases s
 · left
   rw [if_neg (by decide), Rat.one_mul]
   exact ⟨h0, hn, rfl⟩
 · right
   rw [if_pos rfl]
   generalize ((m : Nat) : Rat) * p2 place = z at *
   exact ⟨by grind, by rwa [show -(-1 * z) = z by grind], by rw [Ieee.Format.word, d_sw]; rfl⟩
theorem sum_full (s t : Bool) (m n : Nat) (i j : Int) :
   ∃ r, ((Ieee.Datum.number s m i).sum (Ieee.Datum.number t n j)).map Ieee.double.write = some r ∧ RW (sgn1 s * (((m : Nat) : Rat) * p2 i) + sgn1 t * (((n : Nat) : Rat) * p2 j)) r := by
 unfold Ieee.Datum.sum
 simp only [Option.map_some]
 obtain ⟨base, hbase⟩ : ∃ b : Int, b = min i j := ⟨_, rfl⟩
 rw [← hbase]
 have e1 := signed_p2 s m (i - base).toNat base
 have e2 := signed_p2 t n (j - base).toNat base
 rw [show base + (((i - base).toNat : Nat) : Int) = i by omega] at e1
 rw [show base + (((j - base).toNat : Nat) : Int) = j by omega] at e2
 obtain ⟨total, ht⟩ : ∃ z : Int, z = Ieee.signed s m (i - base).toNat + Ieee.signed t n (j - base).toNat := ⟨_, rfl⟩
 rw [← ht]
 have eq : sgn1 s * ((m : Nat) * p2 i) + sgn1 t * ((n : Nat) * p2 j) = (total : Rat) * p2 base := by
   rw [← e1, ← e2, ht, Rat.intCast_add]; grind
 rw [eq]
 have ha := abs_total total (p2 base)
 have hp := p2_pos base
 obtain ⟨sg, hsg⟩ : ∃ b : Bool, b = (if total = 0 then s && t else decide (total < 0)) := ⟨_, rfl⟩
 rw [← hsg]
 obtain ⟨r, hr, hv⟩ := write_rw sg total.natAbs base
 refine ⟨r, by rw [hr], ?_⟩
 have : sgn1 sg * (((total.natAbs : Nat) : Rat) * p2 base) = (total : Rat) * p2 base := by
   by_cases h0 : total = 0
   · subst h0
     rw [show ((Int.natAbs 0 : Nat) : Rat) = 0 from rfl, show ((0 : Int) : Rat) = 0 from rfl]; grind
   · rw [if_neg h0] at hsg
     rw [ha, hsg]
     unfold sgn1
     by_cases h : total < 0
     · rw [if_pos h, if_pos (by simpa using h)]; grind
     · rw [if_neg h, if_neg (by simpa using h)]; grind
 rwa [this] at hv
theorem add_full {a b : Nat} (ha : Fin64 a) (hb : Fin64 b) : ∃ r, floatBits .add .f64 a b = some r ∧ RW (fval a + fval b) r := by
 show ∃ r, ((Ieee.double.read a).sum (Ieee.double.read b)).map Ieee.double.write = some r ∧ _
 rw [read_fin ha, read_fin hb]
 exact sum_full _ _ _ _ _ _
theorem sub_full {a b : Nat} (ha : Fin64 a) (hb : Fin64 b) : ∃ r, floatBits .sub .f64 a b = some r ∧ RW (fval a - fval b) r := by
 show ∃ r, ((Ieee.double.read a).sum (Ieee.double.read b).opposite).map Ieee.double.write = some r ∧ _
 rw [read_fin ha, read_fin hb]
 have e : fval a - fval b = sgn1 (fneg a) * ((fmag (frung a) : Nat) * p2 (fpl (frung a))) + sgn1 (!fneg b) * ((fmag (frung b) : Nat) * p2 (fpl (frung b))) := by
   rw [fval_eq a, fval_eq b]
   generalize ((fmag (frung b) : Nat) : Rat) * p2 (fpl (frung b)) = z
   cases fneg b <;> simp [sgn1] <;> grind
 rw [e]
 exact sum_full _ _ _ _ _ _
theorem mul_full {a b : Nat} (ha : Fin64 a) (hb : Fin64 b) : ∃ r, floatBits .mul .f64 a b = some r ∧ RW (fval a * fval b) r := by
 show ∃ r, ((Ieee.double.read a).product (Ieee.double.read b)).map Ieee.double.write = some r ∧ _
 rw [read_fin ha, read_fin hb]
 unfold Ieee.Datum.product
 simp only [Option.map_some]
 have e : fval a * fval b = sgn1 (fneg a ^^ fneg b) * (((fmag (frung a) * fmag (frung b) : Nat) : Rat) * p2 (fpl (frung a) + fpl (frung b))) := by
   rw [fval_eq a, fval_eq b, p2_add, Rat.natCast_mul]
   generalize ((fmag (frung a) : Nat) : Rat) = m
   generalize ((fmag (frung b) : Nat) : Rat) = n
   generalize p2 (fpl (frung a)) = u
   generalize p2 (fpl (frung b)) = v
   cases fneg a <;> cases fneg b <;> simp [sgn1] <;> grind
 rw [e]
 obtain ⟨r, hr, h⟩ := write_rw (fneg a ^^ fneg b) (fmag (frung a) * fmag (frung b)) (fpl (frung a) + fpl (frung b))
 exact ⟨r, by rw [hr], h⟩
theorem near_fin {q : Rat} {r : Nat} (h : Near q r) (hq : q < 18014398509481983 * p2 970) : r < 9218868437227405312 := by
 rcases h with ⟨rfl, rfl⟩ | ⟨_, T, k, hl, hh, e⟩
 · omega
 · have hb := kept_bounds hl hh
   have hT : T ≤ 2045 := by
     rcases hl.1 with h | h
     · omega
     · have e1 : ((9007199254740992 : Int) : Rat) * p2 ((T : Int) - 1075) = p2 ((T : Int) - 1022) := by
         rw [show (T : Int) - 1022 = ((T : Int) - 1075) + ((53 : Nat) : Int) by omega, p2_add, p2_nat, Rat.mul_comm]; rfl
       rw [e1] at h
       have e2 : (18014398509481983 : Rat) * p2 970 ≤ p2 1024 := by
         have h1 : p2 1024 = 18014398509481984 * p2 970 := by
           rw [show (1024 : Int) = ((54 : Nat) : Int) + 970 by omega, p2_add, p2_nat]; rfl
         have := p2_pos 970
         rw [h1]
         grind
       have := p2_lt_iff.1 (lt_of_le_lt h (lt_of_lt_le hq e2))
       omega
   rcases Nat.lt_or_ge T 2045 with h | h
   · omega
   · obtain rfl : T = 2045 := by omega
     have s1 := hh.1
     rw [show ((2045 : Nat) : Int) - 1075 = 970 from rfl] at s1
     have s2 : ((2 * (k : Int) - 1 : Int) : Rat) * p2 970 < ((18014398509481983 : Int) : Rat) * p2 970 := lt_of_le_lt s1 hq
     have s3 := int_lt (p2_pos 970) s2
     omega
theorem RW.fin {q : Rat} {b : Nat} (h : RW q b) (hq : ab q < 18014398509481983 * p2 970) : b < 18446744073709551616 ∧ Fin64 b ∧ RV q (fval b) := by
 have hl := ab_lt.1 hq
 obtain ⟨r, h⟩ := h
 rcases h with ⟨h0, hn, rfl⟩ | ⟨h0, hn, rfl⟩
 · have := near_fin hn hl.1
   exact ⟨by omega, by unfold Fin64 frung; omega, b, this, Or.inl ⟨h0, hn, rfl⟩⟩
 · have := near_fin hn hl.2
   exact ⟨by omega, by unfold Fin64 frung; omega, r, this, Or.inr ⟨h0, hn, fval_word this⟩⟩
theorem div_word {a b : Nat} (ha : Fin64 a) (hb : Fin64 b) (h0 : fval b ≠ 0) : ∃ r q, floatBits .quo .f64 a b = some r ∧ RW q r ∧ ab q * ab (fval b) ≤ 2 * ab (fval a) := by
 show ∃ r q, ((Ieee.double.read a).quotient 54 (Ieee.double.read b)).map Ieee.double.write = some r ∧ _
 rw [read_fin ha, read_fin hb]
 have hn0 : fmag (frung b) ≠ 0 := by
   intro h
   apply h0
   rw [fval_eq b, h]
   rw [show ((0 : Nat) : Rat) = 0 from rfl]; grind
 have va : ab (fval a) = ((fmag (frung a) : Nat) : Rat) * p2 (fpl (frung a)) := by
   rw [fval_eq a]
   have h1 : (0 : Rat) ≤ ((fmag (frung a) : Nat) : Rat) * p2 (fpl (frung a)) := Rat.mul_nonneg Rat.natCast_nonneg (Rat.le_of_lt (p2_pos _))
   generalize ((fmag (frung a) : Nat) : Rat) * p2 (fpl (frung a)) = z at *
   unfold sgn1 ab
   cases fneg a <;> simp <;> grind
 have vb : ab (fval b) = ((fmag (frung b) : Nat) : Rat) * p2 (fpl (frung b)) := by
   rw [fval_eq b]
   have h1 : (0 : Rat) ≤ ((fmag (frung b) : Nat) : Rat) * p2 (fpl (frung b)) := Rat.mul_nonneg Rat.natCast_nonneg (Rat.le_of_lt (p2_pos _))
   generalize ((fmag (frung b) : Nat) : Rat) * p2 (fpl (frung b)) = z at *
   unfold sgn1 ab
   cases fneg b <;> simp <;> grind
 rw [va, vb]
 unfold Ieee.Datum.quotient
 simp only [if_neg hn0, Option.map_some]
 generalize hm : fmag (frung a) = m at *
 generalize hn : fmag (frung b) = n at *
 generalize fpl (frung a) = i at *
 generalize fpl (frung b) = j at *
 obtain ⟨more, hmore⟩ : ∃ k, k = 54 + n.log2 - m.log2 := ⟨_, rfl⟩
 rw [← hmore]
 obtain ⟨D, hD⟩ : ∃ D, D = m <<< more := ⟨_, rfl⟩
 rw [← hD]
 obtain ⟨Q, hQ⟩ : ∃ Q, Q = 2 * (D / n) + (D % n != 0).toNat := ⟨_, rfl⟩
 rw [← hQ]
 obtain ⟨r, hr, hrw⟩ := write_rw (fneg a ^^ fneg b) Q (i - j - more - 1)
 refine ⟨r, _, by rw [hr], hrw, ?_⟩
 have hpl := p2_pos (i - j - more - 1)
 have hq0 : (0 : Rat) ≤ ((Q : Nat) : Rat) * p2 (i - j - more - 1) := Rat.mul_nonneg Rat.natCast_nonneg (Rat.le_of_lt hpl)
 have hab : ab (sgn1 (fneg a ^^ fneg b) * (((Q : Nat) : Rat) * p2 (i - j - more - 1))) = ((Q : Nat) : Rat) * p2 (i - j - more - 1) := by
   generalize ((Q : Nat) : Rat) * p2 (i - j - more - 1) = z at *
   unfold sgn1 ab
   cases (fneg a ^^ fneg b) <;> simp <;> grind
 rw [hab]
 have key : Q * n ≤ 4 * D := by
   have h1 := Nat.div_add_mod D n
   have h2 := Nat.mod_lt D (Nat.pos_of_ne_zero hn0)
   rw [Nat.shiftLeft_eq] at hD
   by_cases hz : D % n = 0
   · rw [hz] at hQ
     simp at hQ
     rw [hQ, Nat.mul_assoc, Nat.mul_comm (D / n)]
     omega
   · have hm0 : m ≠ 0 := by
       intro h; subst h; simp at hD; subst hD; simp at hz
     have l1 : 2 ^ m.log2 ≤ m := Nat.log2_self_le hm0
     have l2 : n < 2 ^ (n.log2 + 1) := Nat.lt_log2_self
     have l3 : 2 ^ (n.log2 + 1) ≤ 2 ^ (m.log2 + more) := Nat.pow_le_pow_right (by omega) (by omega)
     rw [Nat.pow_add 2 m.log2 more] at l3
     have l4 : 2 ^ m.log2 * 2 ^ more ≤ m * 2 ^ more := Nat.mul_le_mul_right _ l1
     have l5 : n ≤ D := by omega
     have hQ2 : Q ≤ 2 * (D / n) + 1 := by
       rw [hQ]
       have : (D % n != 0).toNat ≤ 1 := by cases (D % n != 0) <;> decide
       omega
     have l6 : Q * n ≤ (2 * (D / n) + 1) * n := Nat.mul_le_mul_right _ hQ2
     rw [Nat.add_mul, Nat.mul_assoc, Nat.mul_comm (D / n), Nat.one_mul] at l6
     omega
 have k2 : ((Q : Nat) : Rat) * ((n : Nat) : Rat) ≤ 4 * (((m : Nat) : Rat) * ((2 ^ more : Nat) : Rat)) := by
   have := Rat.natCast_le_natCast.2 key
   rw [hD, Nat.shiftLeft_eq, Rat.natCast_mul, Rat.natCast_mul, Rat.natCast_mul] at this
   exact this
 have k3 : p2 i * 2 = ((2 ^ more : Nat) : Rat) * (p2 (i - j - more - 1) * p2 j) * 4 := by
   rw [← p2_nat, ← p2_add, ← p2_add]
   have : p2 i = p2 ((more : Int) + (i - j - more - 1 + j)) * 2 := by
     rw [← p2_one, ← p2_add]
     congr 1
     omega
   rw [this]
   grind
 have hj := p2_pos j
 have k4 := Rat.mul_le_mul_of_nonneg_right k2 (Rat.le_of_lt (Rat.mul_pos hpl hj))
 have g1 : ((Q : Nat) : Rat) * p2 (i - j - more - 1) * (((n : Nat) : Rat) * p2 j) = ((Q : Nat) : Rat) * ((n : Nat) : Rat) * (p2 (i - j - more - 1) * p2 j) := by grind
 have g2 : 4 * (((m : Nat) : Rat) * ((2 ^ more : Nat) : Rat)) * (p2 (i - j - more - 1) * p2 j) = ((m : Nat) : Rat) * (((2 ^ more : Nat) : Rat) * (p2 (i - j - more - 1) * p2 j) * 4) := by grind
 rw [g2, ← k3] at k4
 rw [g1]
 grind
theorem half_word {a : Nat} (ha : Fin64 a) : ∃ r, floatBits .quo .f64 a 4611686018427387904 = some r ∧ RW (fval a * p2 (-1)) r := by
 show ∃ r, ((Ieee.double.read a).quotient 54 (Ieee.double.read 4611686018427387904)).map Ieee.double.write = some r ∧ _
 rw [read_fin ha, show Ieee.double.read 4611686018427387904 = .number false 4503599627370496 (-51) by decide]
 unfold Ieee.Datum.quotient
 simp only [if_neg (show ¬ (4503599627370496 : Nat) = 0 by decide), Option.map_some]
 have el : Nat.log2 4503599627370496 = 52 := by decide
 rw [el, fval_eq a]
 have hm := fmag_lt (frung a)
 generalize fmag (frung a) = m at *
 generalize fpl (frung a) = i at *
 have hlog : m.log2 ≤ 52 := by
   rcases Nat.eq_zero_or_pos m with h | h
   · subst h; decide
   · have := (Nat.log2_lt (by omega : m ≠ 0)).2 (show m < 2 ^ 53 by omega)
     omega
 obtain ⟨k, hk⟩ : ∃ k, 54 + 52 - m.log2 = 52 + k := ⟨54 - m.log2, by omega⟩
 rw [hk]
 have eD : m <<< (52 + k) = m * 2 ^ k * 4503599627370496 := by
   rw [Nat.shiftLeft_eq, Nat.pow_add, show 2 ^ 52 = 4503599627370496 by decide, Nat.mul_assoc, Nat.mul_comm (2 ^ k)]
 rw [eD, Nat.mul_div_cancel _ (by decide : 0 < 4503599627370496), Nat.mul_mod_left]
 simp only [bne_self_eq_false, Bool.toNat_false, Nat.add_zero]
 obtain ⟨r, hr, h⟩ := write_rw (fneg a ^^ false) (2 * (m * 2 ^ k)) (i - -51 - ((52 + k : Nat) : Int) - 1)
 refine ⟨r, by rw [hr], ?_⟩
 have e : sgn1 (fneg a ^^ false) * (((2 * (m * 2 ^ k) : Nat) : Rat) * p2 (i - -51 - ((52 + k : Nat) : Int) - 1)) = sgn1 (fneg a) * ((m : Nat) * p2 i) * p2 (-1) := by
   rw [Bool.xor_false, Rat.natCast_mul, Rat.natCast_mul, ← p2_nat]
   have : p2 i * p2 (-1) = 2 * (p2 (k : Int) * p2 (i - -51 - ((52 + k : Nat) : Int) - 1)) := by
     rw [← p2_add, ← p2_add, ← p2_one, ← p2_add]
     congr 1
     omega
   rw [show ((2 : Nat) : Rat) = 2 from rfl]
   have h2 : sgn1 (fneg a) * ((m : Nat) * p2 i) * p2 (-1) = sgn1 (fneg a) * ((m : Nat) * (p2 i * p2 (-1))) := by grind
   rw [h2, this]
   grind
 rwa [e] at h
end

/- Lengths, angles, middles: plain facts. -/
section
def dotR (ax ay bx by' px py : Rat) : Rat := (ax - px) * (bx - px) + (ay - py) * (by' - py)
def lenR (ax ay bx by' : Rat) : Rat := (bx - ax) * (bx - ax) + (by' - ay) * (by' - ay)
def turnR (ax ay bx by' cx cy : Rat) : Rat := (bx - ax) * (cy - ay) - (by' - ay) * (cx - ax)
theorem sq_nonneg (x : Rat) : 0 ≤ x * x := by
 rcases (by grind : 0 ≤ x ∨ x ≤ 0) with h | h
 · exact Rat.mul_nonneg h h
 · have := Rat.mul_nonneg (show 0 ≤ -x by grind) (show 0 ≤ -x by grind)
   rwa [show -x * -x = x * x by grind] at this
theorem sq_zero {x : Rat} (h : x * x = 0) : x = 0 := by
 rcases Rat.mul_eq_zero.1 h with h | h <;> exact h
def midX (ax ay bx by' cx cy : Rat) : Rat := (cy - ay) * lenR ax ay bx by' - (by' - ay) * lenR ax ay cx cy + 2 * turnR ax ay bx by' cx cy * ax
def midY (ax ay bx by' cx cy : Rat) : Rat := (bx - ax) * lenR ax ay cx cy - (cx - ax) * lenR ax ay bx by' + 2 * turnR ax ay bx by' cx cy * ay
end

/- The float nearest to a number that is not below 0: plain facts. -/
section
def upv (r : Nat) : Rat := if r + 1 < 9218868437227405312 then fval (r + 1) else p2 1024
structure NQ (q : Rat) (r : Nat) : Prop where
 fin : r < 9218868437227405312
 lo : r ≠ 0 → fval (r - 1) + fval r ≤ 2 * q ∧ (fval (r - 1) + fval r = 2 * q → r % 2 = 0)
 hi : 2 * q ≤ fval r + upv r ∧ (2 * q = fval r + upv r → r % 2 = 0)
theorem up_lt {r : Nat} (h : r < 9218868437227405312) : fval r < upv r := by
 unfold upv
 split
 · rename_i h1
   exact fval_lt (by omega) h1
 · obtain rfl : r = 9218868437227405311 := by omega
   have e := (fval_pos_lt (r := 9218868437227405311) (by omega)).1
   rw [e, show fmag 9218868437227405311 = 9007199254740991 by decide, show fpl 9218868437227405311 = 971 by decide]
   have h2 : p2 1024 = 9007199254740992 * p2 971 := by
     rw [show (1024 : Int) = ((53 : Nat) : Int) + 971 by omega, p2_add, p2_nat]; rfl
   have h3 := p2_pos 971
   rw [h2, show ((9007199254740991 : Nat) : Rat) = 9007199254740991 from rfl]
   grind
theorem NQ.one_lt {q : Rat} {r s : Nat} (h1 : NQ q r) (h2 : NQ q s) (h : r < s) : False := by
 have hs := h2.fin
 have e : upv r = fval (r + 1) := by unfold upv; rw [if_pos (by omega)]
 obtain ⟨a1, a2⟩ := h1.hi
 obtain ⟨b1, b2⟩ := h2.lo (by omega)
 rw [e] at a1 a2
 rcases Nat.lt_or_ge (r + 1) s with h3 | h3
 · have c1 := fval_lt (r := r) (s := s - 1) (by omega) (by omega)
   have c2 := fval_lt (r := r + 1) (s := s) h3 hs
   grind
 · obtain rfl : s = r + 1 := by omega
   rw [show r + 1 - 1 = r by omega] at b1 b2
   have d1 := a2 (by grind)
   have d2 := b2 (by grind)
   omega
theorem NQ.one {q : Rat} {r s : Nat} (h1 : NQ q r) (h2 : NQ q s) : r = s := by
 rcases Nat.lt_trichotomy r s with h | h | h
 · exact (h1.one_lt h2 h).elim
 · exact h
 · exact (h2.one_lt h1 h).elim
theorem NQ.exact {r : Nat} (hr : r < 9218868437227405312) : NQ (fval r) r := by
 have u := up_lt hr
 refine ⟨hr, fun h0 => ?_, by grind, fun k => by exfalso; grind⟩
 have := fval_lt (r := r - 1) (s := r) (by omega) hr
 exact ⟨by grind, fun k => by exfalso; grind⟩
end
end Go.Proofs.YtocnkgfoffpbfaaGreatDoor

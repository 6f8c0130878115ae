/- Own texts, put together: Xs Xt Xu Xv Xw Oc Od Oe Qm Of Og Oh Oi Oj. -/
import Derived.Test.YtgoadpnoagaflaaDoorQ4
import Derived.Test.YtgoadpnoagaflaaDoorQ30
import Derived.Test.YtgoadpnoagaflaaDoorQ32
namespace Go.Proofs.YtgoadpnoagaflaaDoor
/- Package expand: a list squeezed, whatever it is; a list turned about. -/
section
open Go.RowKit Go.Shelf
attribute [local go_sem] run_store_float
end

/- Package expand: which lists may be, and what follows of it. -/
section
open Go.RowKit Go.Shelf
theorem up_may {lo hi : Nat} {bs : List Nat} (hx : Ex (vals bs)) (hl : bs.length ≤ 64) (hb : ∀ b ∈ bs, lo ≤ frung b ∧ frung b ≤ hi) : MayP lo hi bs := by
 refine ⟨hl, fun i hi => ?_⟩
 have hm : bs.getD i 0 ∈ bs := by
   rw [show bs.getD i 0 = bs[i] by simp [List.getD, hi]]; exact List.getElem_mem hi
 refine ⟨(hb _ hm).1, (hb _ hm).2, fun e => hx.2 (fval (bs.getD i 0)) (List.mem_map.2 ⟨_, hm, rfl⟩) (fval_zero_iff.2 e), fun h0 => ?_⟩
 have := (List.pairwise_iff_getElem.1 hx.1) (i - 1) i (by simp [vals]; omega) (by simp [vals]; omega) (by omega)
 have h1 : i - 1 < bs.length := by omega
 simpa [vals, List.getD, hi, h1] using this
theorem top990 : fval 9065746049896808448 = U 2064 := by
 rw [(fval_pos_lt (by omega)).1, show fmag 9065746049896808448 = 4503599627370496 by decide, show fpl 9065746049896808448 = 938 by decide]
 unfold U
 rw [show ((2064 : Nat) : Int) - 1074 = 938 + ((52 : Nat) : Int) by omega, p2_add, p2_nat, Rat.mul_comm]
theorem word_le {b : Nat} (h : Fin64 b) (hl : ab (fval b) ≤ U 2064) : frung b ≤ 9065746049896808448 := by
 rcases Nat.lt_or_ge 9065746049896808448 (frung b) with h1 | h1
 · exfalso
   have := fval_lt h1 h
   rw [top990, ab_fval b h] at this
   grind
 · exact h1
theorem Ex.lead {l : List Rat} {c : Rat} (h : Ex (l ++ [c])) : ab l.sum < ab c := by
 have c0 : c ≠ 0 := h.2 c (by simp)
 by_cases e : l = []
 · subst e
   rw [List.sum_nil, show ab 0 = 0 by unfold ab; grind]
   exact ab_pos c0
 · obtain ⟨t, h1, h2⟩ := lo_many (fun d hd => (List.pairwise_append.1 h.1).2.2 d hd c (by simp)) e
   have h3 := h.left.bound (s := t) h1
   have h4 := h2.ge (U_pos t) c0
   grind
theorem vals_last {bs : List Nat} (h : bs ≠ []) : ∃ ds, bs = ds ++ [lastW bs] := by
 rcases List.eq_nil_or_concat bs with rfl | ⟨ds, c, rfl⟩
 · exact absurd rfl h
 · exact ⟨ds, by rw [List.concat_eq_append]; simp [lastW, List.getD]⟩
theorem Ex.le_last {l : List Rat} {c x : Rat} (h : Ex (l ++ [c])) (hx : x ∈ l ++ [c]) : ab x ≤ ab c := by
 rcases List.mem_append.1 hx with hx | hx
 · have := ((List.pairwise_append.1 h.1).2.2 x hx c (by simp)).lt (h.2 c (by simp))
   grind
 · rw [List.mem_singleton.1 hx]; exact Rat.le_refl
theorem Sq.up {top N : Nat} {S : Rat} {bs : List Nat} (h : Sq top S bs) (hS : ab S < U N) : Up (N + 1) bs := by
 refine ⟨h.ex, h.fin, fun b hb => ?_⟩
 have hne : bs ≠ [] := by intro e; rw [e] at hb; cases hb
 obtain ⟨ds, hd⟩ := vals_last hne
 have e2 : vals bs = vals ds ++ [fval (lastW bs)] := by
   conv => lhs; rw [hd]
   simp [vals]
 have hl := (h.lead (fval (lastW bs)) (by rw [e2]; simp)).1
 have hx : fval b ∈ vals bs := List.mem_map.2 ⟨b, hb, rfl⟩
 have hex := h.ex
 rw [e2] at hx hex
 have h1 := hex.le_last hx
 have h2 : ab (fval (lastW bs)) ≤ ab (fval (lastW bs) - S) + ab S := by
   have := ab_add (fval (lastW bs) - S) S
   rwa [show fval (lastW bs) - S + S = fval (lastW bs) by grind] at this
 have h3 := U_succ N
 have h4 := ab_nonneg (fval (lastW bs) - S)
 grind
theorem Up.mono {N N' : Nat} {bs : List Nat} (h : Up N bs) (hN : N ≤ N') : Up N' bs := ⟨h.ex, h.fin, fun b hb => by have := h.lim b hb; have := U_mono hN; grind⟩
theorem up_nil (N : Nat) : Up N [] := ⟨⟨List.Pairwise.nil, by simp [vals]⟩, by simp, by simp⟩
theorem Sq.may {top N : Nat} {S : Rat} {bs : List Nat} (h : Sq top S bs) (hS : ab S < U N) (hN : N ≤ 2063) (ht : top ≤ 2074) : MayP 0 9065746049896808448 bs := by
 have u := h.up hS
 refine up_may h.ex (by have := h.cnt; omega) (fun b hb => ⟨Nat.zero_le _, word_le (h.fin b hb) ?_⟩)
 have := u.lim b hb
 have := U_mono (show N + 1 ≤ 2064 by omega)
 grind
end

/- Package expand: Sign, Near, Cmp, Of. -/
section
open Go.RowKit Go.Shelf
abbrev MayC (bs : List Nat) : Prop := MayP 0 9065746049896808448 bs
end

/- Package expand: Sum, Add. -/
section
open Go.RowKit Go.Shelf
structure SumS (S : Rat) (bs : List Nat) : Prop where
 sum : (vals bs).sum = S
 up : Up 1984 bs
 cnt : bs.length ≤ 64
 may : MayC bs
 sq : ∃ top, Sq top S bs
theorem SumS.nil : SumS 0 [] := ⟨rfl, up_nil _, by simp, ⟨by simp, fun i hi => by simp at hi⟩, ⟨0, Sq.nil 0⟩⟩
theorem SumS.of {S : Rat} {bs : List Nat} {top : Nat} (h : Sq top S bs) (ht : top ≤ 2000) (hS : ab S < U 1983) : SumS S bs :=
 ⟨h.sum, h.up hS, by have := h.cnt; omega, h.may hS (by omega) (by omega), ⟨top, h⟩⟩
end

/- Package expand: Add, Mul, Scale. -/
section
open Go.RowKit Go.Shelf
end

/- Which points may be: grid.Has. -/
section
open Go.RowKit
attribute [local go_sem ↓] Go.wp_at_zero Go.wp_at_succ
attribute [local go_sem] run_store_float
def Pt (x y : Nat) : Prop := Crd x ∧ Crd y
end

/- Signs that are told fast: the floats that are reckoned. -/
section
open Go.RowKit
def S3 (ax ay bx by' cx cy : Nat) : Rat := (fval bx - fval ax) * (fval cy - fval ay) - (fval by' - fval ay) * (fval cx - fval ax)
theorem RN.le {q x : Rat} {p : Nat} (h : RN q x) (hq : ab q ≤ U p) : ab x ≤ U p := by
 obtain ⟨_, _, R⟩ := h
 exact R.le_pow' hq
theorem M.ab {u x : Rat} (h : M u x) : M u (ab x) := by
 unfold Go.Proofs.YtgoadpnoagaflaaDoor.ab
 split
 · exact h.neg
 · exact h
theorem RN.int {q x : Rat} (h : RN q x) (n : Int) (e : q = (n : Rat)) (h1 : -9007199254740992 ≤ n) (h2 : n ≤ 9007199254740992) : x = q := h.exact (by rw [e]; exact F_int n h1 h2)
end

/- Package orient: Fast. -/
section
open Go.RowKit Go.Shelf
attribute [local go_sem ↓] Go.wp_at_zero Go.wp_at_succ
attribute [local go_sem] run_store_float
def P3 (ax ay bx by' cx cy : Nat) : Prop := Pt ax ay ∧ Pt bx by' ∧ Pt cx cy
def W6 (ax ay bx by' cx cy : Nat) : Prop := (ax < 18446744073709551616 ∧ ay < 18446744073709551616) ∧ (bx < 18446744073709551616 ∧ by' < 18446744073709551616) ∧ cx < 18446744073709551616 ∧ cy < 18446744073709551616
structure B3 (w W : World) (ax ay bx by' cx cy : Nat) : Prop where
 a0 : W.cell? ⟨w.heap.size, 0, none⟩ = some (.float .f64 ax)
 a1 : W.cell? ⟨w.heap.size, 1, none⟩ = some (.float .f64 ay)
 b0 : W.cell? ⟨w.heap.size + 1, 0, none⟩ = some (.float .f64 bx)
 b1 : W.cell? ⟨w.heap.size + 1, 1, none⟩ = some (.float .f64 by')
 c0 : W.cell? ⟨w.heap.size + 1 + 1, 0, none⟩ = some (.float .f64 cx)
 c1 : W.cell? ⟨w.heap.size + 1 + 1, 1, none⟩ = some (.float .f64 cy)
 bel : Below w.heap.size w W
theorem B3.later {w W W' : World} {ax ay bx by' cx cy : Nat} (h : B3 w W ax ay bx by' cx cy) (hb : Below W.heap.size W W') : B3 w W' ax ay bx by' cx cy :=
 ⟨box_cell hb h.a0, box_cell hb h.a1, box_cell hb h.b0, box_cell hb h.b1, box_cell hb h.c0, box_cell hb h.c1, below_step h.bel hb⟩
end

/- Which points may be: admit.May. -/
section
open Go.RowKit Go.Shelf
attribute [local go_sem ↓] Go.wp_at_zero Go.wp_at_succ
attribute [local go_sem] run_store_float
end

/- Package orient: grown, differences as lists. -/
section
open Go.RowKit Go.Shelf
attribute [local go_sem ↓] Go.wp_at_zero Go.wp_at_succ
attribute [local go_sem] run_store_float
end

/- Package orient: exactSign, Sign. -/
section
open Go.RowKit Go.Shelf
attribute [local go_sem ↓] Go.wp_at_zero Go.wp_at_succ
attribute [local go_sem] run_store_float
end

/- Package orient: On, Cross. -/
section
open Go.RowKit Go.Shelf
attribute [local go_sem ↓] Go.wp_at_zero Go.wp_at_succ
attribute [local go_sem] run_store_float
def Btw (a b x : Rat) : Prop := (a ≤ x ∧ x ≤ b) ∨ (b ≤ x ∧ x ≤ a)
def OnP (ax ay bx by' px py : Nat) : Prop := P3 ax ay bx by' px py ∧ Btw (fval ax) (fval bx) (fval px) ∧ Btw (fval ay) (fval by') (fval py) ∧ S3 ax ay bx by' px py = 0
end

/- Package orient: Cross. -/
section
open Go.RowKit Go.Shelf
end

/- Which points may be, by reckoning. -/
section
theorem den_one {q : Rat} : q.den = 1 ↔ ∃ k : Int, q = (k : Rat) := by
 constructor
 · intro h
   refine ⟨q.num, ?_⟩
   apply Rat.ext
   · simp
   · simp [h]
 · rintro ⟨k, rfl⟩
   simp
theorem crd_iff (x : Nat) : Crd x ↔ frung x ≤ 5057542381537067008 ∧ (fval x * U 1174).den = 1 := by
 unfold Crd
 rw [den_one, ← M_one, steps_one]
instance (x : Nat) : Decidable (Crd x) := decidable_of_iff _ (crd_iff x).symm
instance (x y : Nat) : Decidable (Pt x y) := by unfold Pt; exact inferInstance
instance (ax ay bx by' cx cy : Nat) : Decidable (P3 ax ay bx by' cx cy) := by unfold P3; exact inferInstance
instance (a b x : Rat) : Decidable (Btw a b x) := by unfold Btw; exact inferInstance
instance (ax ay bx by' cx cy : Nat) : Decidable (OnP ax ay bx by' cx cy) := by unfold OnP; exact inferInstance
end
end Go.Proofs.YtgoadpnoagaflaaDoor
